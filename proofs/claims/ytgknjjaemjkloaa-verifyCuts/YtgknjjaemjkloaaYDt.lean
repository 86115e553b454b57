/- What is written is read again: trees, programs. -/
import Derived.Test.YtgknjjaemjkloaaYRd
import Derived.Test.YtgknjjaemjkloaaYNd
namespace Go.Proofs.Ytgknjjaemjkloaa.YBk
open Go.Proofs.Ytgknjjaemjkloaa.Leb Go.Proofs.Ytgknjjaemjkloaa.YPl Go.Proofs.Ytgknjjaemjkloaa.YRd
open Go.Proofs.Ytgknjjaemjkloaa.TBase (T)
set_option linter.unusedVariables false

def seg (b : By) (p q : Nat) : By := (b.drop p).take (q - p)
theorem seg_cat {b : By} {p q r : Nat} (h1 : p ≤ q) (h2 : q ≤ r) : seg b p q ++ seg b q r = seg b p r := by
  unfold seg
  have e : b.drop q = (b.drop p).drop (q - p) := by rw [List.drop_drop]; congr 1; omega
  rw [e, show r - p = (q - p) + (r - q) by omega, List.take_add]
theorem seg_self (b : By) (p : Nat) : seg b p p = [] := by unfold seg; simp
theorem pts_flat : ∀ (Xs : List By) (L : By), (L ++ Xs.flatten).length ≤ 1048576 → pts L Xs = L ++ Xs.flatten := by
  intro Xs
  induction Xs with
  | nil => intro L h; simp [pts]
  | cons X Xs ih =>
    intro L h
    have hl : ¬ 1048576 < L.length := by simp at h; omega
    show pts (pt L X) Xs = _
    rw [show pt L X = L ++ X by unfold pt; rw [if_neg hl], ih _ (by simpa using h)]
    simp
/-- What f reads at a place is what g writes. -/
def Bk {α : Type} (b : By) (f : Nat → Rs α) (g : α → Pc) : Prop := ∀ p x q, f p = .ok (x, q) → p ≤ q ∧ q ≤ b.length ∧ ∃ Xs, g x = some Xs ∧ Xs.flatten = seg b p q
theorem bnd_ok {α β : Type} {a : Rs α} {f : α → Nat → Rs β} {y : β} {r : Nat} (h : bnd a f = .ok (y, r)) : ∃ x q, a = .ok (x, q) ∧ f x q = .ok (y, r) := by
  cases a with
  | error z => cases h
  | ok t => obtain ⟨x, q⟩ := t; exact ⟨x, q, rfl, h⟩
theorem bk_oct (b : By) : Bk b (roct b) oct := by
  intro p x q h
  unfold roct at h
  split at h
  · rename_i hp
    cases h
    refine ⟨by omega, by omega, [[b[p]]], ?_, ?_⟩
    · unfold oct
      have := b[p].toNat_lt
      rw [if_pos ⟨by omega, by omega⟩]
      simp
    · unfold seg
      rw [show p + 1 - p = 1 by omega, List.drop_eq_getElem_cons hp]
      rfl
  · cases h
theorem zig_unz (x : Nat) : zig (unz x) = x := by unfold zig unz; split <;> split <;> omega
theorem tk_seg {b : By} {p : Nat} (h : (tk b p).2.2 = 0) : p ≤ (tk b p).2.1 ∧ (tk b p).2.1 ≤ b.length ∧ putL (tk b p).1 = seg b p (tk b p).2.1 := by
  obtain ⟨n, h1, h2, h3, h4, h5, -⟩ := tk_back h
  simp only [Int.toNat_natCast] at h3 h4 h5
  refine ⟨by omega, by omega, ?_⟩
  rw [h5, h4]
  unfold seg
  rw [show p + n - p = n by omega]
theorem bk_whl (b : By) : Bk b (rwhl b) whl := by
  intro p x q h
  unfold rwhl at h
  simp only at h
  split at h
  · rename_i h0
    cases h
    obtain ⟨h1, h2, h3⟩ := tk_seg h0
    exact ⟨h1, h2, _, rfl, by rw [zig_unz]; simpa using h3⟩
  · cases h
theorem bk_cnt (b : By) (lim : Nat) : Bk b (rcnt lim b) (fun n => cnt lim (n : Int)) := by
  intro p x q h
  unfold rcnt at h
  simp only at h
  split at h
  · rename_i h0
    cases h
    obtain ⟨h1, h2, h3⟩ := tk_seg h0.1
    refine ⟨h1, h2, [putL (tk b p).1], ?_, by simpa using h3⟩
    show cnt lim ((tk b p).1 : Int) = _
    unfold cnt
    rw [if_pos ⟨by omega, by omega⟩]
    simp
  · cases h
theorem bk_cat {α β : Type} {b : By} {f : Nat → Rs α} {g : α → Pc} {f2 : Nat → Rs β} {g2 : β → Pc} (h1 : Bk b f g) (h2 : Bk b f2 g2) {p : Nat} {x : α} {q : Nat} {y : β} {r : Nat} (e1 : f p = .ok (x, q)) (e2 : f2 q = .ok (y, r)) : p ≤ r ∧ r ≤ b.length ∧ ∃ Xs, cat (g x) (g2 y) = some Xs ∧ Xs.flatten = seg b p r := by
  obtain ⟨a1, a2, X, a3, a4⟩ := h1 p x q e1
  obtain ⟨b1, b2, Y, b3, b4⟩ := h2 q y r e2
  exact ⟨by omega, b2, X ++ Y, by rw [a3, b3]; rfl, by rw [List.flatten_append, a4, b4, seg_cat a1 b1]⟩
theorem bk_txt (b : By) : Bk b (rtxt b) txt := by
  intro p x q h
  unfold rtxt at h
  obtain ⟨n, z, h1, h2⟩ := bnd_ok h
  split at h2
  · cases h2
  · rename_i hl
    split at h2
    · rename_i hv
      cases h2
      obtain ⟨a1, a2, X, a3, a4⟩ := bk_cnt b 4096 p n z h1
      have a3 : cnt 4096 (n : Int) = some X := a3
      have hs : (sub b z n).size = n := by show ((b.drop z).take n).toArray.size = n; simp; omega
      have hn : n ≤ 4096 := by
        unfold cnt at a3
        split at a3
        · rename_i h0; omega
        · cases a3
      refine ⟨by omega, by omega, [putL (sub b z n).size, (sub b z n).data.toList], ?_, ?_⟩
      · unfold txt; rw [if_pos ⟨by omega, hv⟩]
      · have e1 : X.flatten = putL n := by
          unfold cnt at a3
          split at a3
          · cases a3; simp
          · cases a3
        rw [hs, ← seg_cat a1 (show z ≤ z + n by omega), ← a4, e1]
        simp [sub, seg]
    · cases h2
theorem bk_many {α : Type} {b : By} {f : Nat → Rs α} {g : α → Pc} (h : Bk b f g) : ∀ (n p : Nat) (l : List α) (q : Nat), p ≤ b.length → rmany f n p = .ok (l, q) → p ≤ q ∧ q ≤ b.length ∧ l.length = n ∧ ∃ Xs, lis g l = some Xs ∧ Xs.flatten = seg b p q := by
  intro n
  induction n with
  | zero => intro p l q hp e; rw [rmany] at e; cases e; exact ⟨Nat.le_refl _, hp, rfl, [], rfl, by rw [seg_self]; rfl⟩
  | succ n ih =>
    intro p l q hp e
    rw [rmany] at e
    obtain ⟨x, z, e1, e2⟩ := bnd_ok e
    obtain ⟨l', r, e3, e4⟩ := bnd_ok e2
    cases e4
    obtain ⟨a1, a2, X, a3, a4⟩ := h p x z e1
    obtain ⟨b1, b2, b3, Y, b4, b5⟩ := ih z l' q a2 e3
    exact ⟨by omega, b2, by simp [b3], X ++ Y, by rw [lis, a3, b4]; rfl, by rw [List.flatten_append, a4, b5, seg_cat a1 b1]⟩
theorem bk_lst {α : Type} {b : By} {f : Nat → Rs α} {g : α → Pc} (lim : Nat) (h : Bk b f g) : Bk b (rlst lim f b) (lst lim g) := by
  intro p l q e
  unfold rlst at e
  obtain ⟨n, z, e1, e2⟩ := bnd_ok e
  obtain ⟨a1, a2, X, a3, a4⟩ := bk_cnt b lim p n z e1
  obtain ⟨b1, b2, b3, Y, b4, b5⟩ := bk_many h n z l q a2 e2
  refine ⟨by omega, b2, X ++ Y, ?_, by rw [List.flatten_append, a4, b5, seg_cat a1 b1]⟩
  unfold lst
  simp only at a3
  rw [b3, a3, b4]
  rfl
theorem bk_ins (b : By) : Bk b (rins b) ins := by
  intro p x q h
  unfold rins at h
  obtain ⟨x1, p1, e1, h⟩ := bnd_ok h
  obtain ⟨x2, p2, e2, h⟩ := bnd_ok h
  cases h
  exact bk_cat (bk_oct b) (bk_whl b) e1 e2
theorem bk_att (b : By) : Bk b (ratt b) att := by
  intro p x q h
  unfold ratt at h
  obtain ⟨x1, p1, e1, h⟩ := bnd_ok h
  obtain ⟨x2, p2, e2, h⟩ := bnd_ok h
  cases h
  exact bk_cat (bk_txt b) (bk_txt b) e1 e2
theorem cat_seg {b : By} {p q r : Nat} {g1 g2 : Pc} (h1 : p ≤ q ∧ q ≤ b.length ∧ ∃ Xs, g1 = some Xs ∧ Xs.flatten = seg b p q) (h2 : q ≤ r ∧ r ≤ b.length ∧ ∃ Xs, g2 = some Xs ∧ Xs.flatten = seg b q r) : p ≤ r ∧ r ≤ b.length ∧ ∃ Xs, cat g1 g2 = some Xs ∧ Xs.flatten = seg b p r := by
  obtain ⟨a1, a2, X, a3, a4⟩ := h1
  obtain ⟨b1, b2, Y, b3, b4⟩ := h2
  exact ⟨by omega, b2, X ++ Y, by rw [a3, b3]; rfl, by rw [List.flatten_append, a4, b4, seg_cat a1 b1]⟩
theorem bk_opc (b : By) : Bk b (ropc b) opc := by
  intro p x q h
  unfold ropc at h
  obtain ⟨x1, p1, e1, h⟩ := bnd_ok h
  obtain ⟨x2, p2, e2, h⟩ := bnd_ok h
  obtain ⟨x3, p3, e3, h⟩ := bnd_ok h
  obtain ⟨x4, p4, e4, h⟩ := bnd_ok h
  obtain ⟨x5, p5, e5, h⟩ := bnd_ok h
  cases h
  exact cat_seg (bk_oct b _ _ _ e1) (cat_seg (bk_whl b _ _ _ e2) (cat_seg (bk_whl b _ _ _ e3) (cat_seg (bk_whl b _ _ _ e4) (bk_lst 64 (bk_whl b) _ _ _ e5))))
theorem bk_blk (b : By) : Bk b (rblk b) blk := by
  intro p x q h
  unfold rblk at h
  obtain ⟨x1, p1, e1, h⟩ := bnd_ok h
  obtain ⟨x2, p2, e2, h⟩ := bnd_ok h
  obtain ⟨x3, p3, e3, h⟩ := bnd_ok h
  cases h
  exact cat_seg (bk_cnt b 64 _ _ _ e1) (cat_seg (bk_lst 8192 (bk_opc b) _ _ _ e2) (bk_lst 8192 (bk_whl b) _ _ _ e3))
end Go.Proofs.Ytgknjjaemjkloaa.YBk

namespace Go.Proofs.Ytgknjjaemjkloaa.YBt
open Go.Proofs.Ytgknjjaemjkloaa.Leb Go.Proofs.Ytgknjjaemjkloaa.YPl Go.Proofs.Ytgknjjaemjkloaa.YRd Go.Proofs.Ytgknjjaemjkloaa.YBk
open Go.Proofs.Ytgknjjaemjkloaa.TBase (T)
open Go.Proofs.Ytgknjjaemjkloaa.TVisit (vis vis_cons vis_nil)
set_option linter.unusedVariables false

theorem bk_manyT {b : By} {f : Nat → Nat → Rt T} {g : T → Pc} (h : ∀ p k x q k', f p k = .ok (x, q, k') → p ≤ q ∧ q ≤ b.length ∧ ∃ Xs, g x = some Xs ∧ Xs.flatten = seg b p q) : ∀ (n p k : Nat) (l : List T) (q k' : Nat), p ≤ b.length → rmanyT f n p k = .ok (l, q, k') → p ≤ q ∧ q ≤ b.length ∧ l.length = n ∧ ∃ Xs, lis g l = some Xs ∧ Xs.flatten = seg b p q := by
  intro n
  induction n with
  | zero => intro p k l q k' hp e; rw [rmanyT] at e; cases e; exact ⟨Nat.le_refl _, hp, rfl, [], rfl, by rw [seg_self]; rfl⟩
  | succ n ih =>
    intro p k l q k' hp e
    rw [rmanyT] at e
    cases e1 : f p k with
    | error z => rw [e1] at e; cases e
    | ok t =>
      obtain ⟨x, z, k2⟩ := t
      rw [e1] at e
      simp only at e
      cases e2 : rmanyT f n z k2 with
      | error y => rw [e2] at e; cases e
      | ok t =>
        obtain ⟨l', r, k3⟩ := t
        rw [e2] at e
        cases e
        obtain ⟨a1, a2, X, a3, a4⟩ := h p k x z k2 e1
        obtain ⟨b1, b2, b3, Y, b4, b5⟩ := ih z k2 l' q k' a2 e2
        exact ⟨by omega, b2, by simp [b3], X ++ Y, by rw [lis, a3, b4]; rfl, by rw [List.flatten_append, a4, b5, seg_cat a1 b1]⟩
/-- The nodes as forest.Check counts them. -/
def Vs (l : List T) (d k k' : Nat) : Prop := ∀ e, (vis l d k e).2.2 = 0 ∧ (vis l d k e).1 = k'
theorem vs_cons {t : T} {l : List T} {d k k1 k2 : Nat} (h0 : TMay.flt t d (k + 1) = 0) (h1 : Vs t.l (d + 1) (k + 1) k1) (h2 : Vs l d k1 k2) : Vs (t :: l) d k k2 := by
  intro e
  rw [vis_cons, if_pos h0, if_pos (h1 _).1, (h1 _).2]
  exact h2 _
theorem vs_nil (d k : Nat) : Vs [] d k k := by intro e; rw [vis_nil]; exact ⟨rfl, rfl⟩
theorem vs_one {t : T} {d k k1 : Nat} (h0 : TMay.flt t d (k + 1) = 0) (h1 : Vs t.l (d + 1) (k + 1) k1) : Vs [t] d k k1 := vs_cons h0 h1 (vs_nil _ _)
theorem txt_ok {s : ByteArray} {Xs : List By} (h : txt s = some Xs) : s.size ≤ 4096 ∧ UBase.verr s = 0 := by
  unfold txt at h
  split at h
  · assumption
  · cases h
/-- What is known of a node that was read where m depths are left. -/
def Nk (b : By) (m p k : Nat) (t : T) (q k' : Nat) : Prop := p ≤ q ∧ q ≤ b.length ∧ (∃ Xs, nd t = some Xs ∧ Xs.flatten = seg b p q) ∧ TMay.flt t (65 - m) (k + 1) = 0 ∧ Vs t.l (65 - m + 1) (k + 1) k'
theorem many_vs {b : By} {m : Nat} (h : ∀ p k t q k', rnd b m p k = .ok (t, q, k') → Nk b m p k t q k') : ∀ (n p k : Nat) (l : List T) (q k' : Nat), rmanyT (rnd b m) n p k = .ok (l, q, k') → Vs l (65 - m) k k' := by
  intro n
  induction n with
  | zero => intro p k l q k' e; rw [rmanyT] at e; cases e; exact vs_nil _ _
  | succ n ih =>
    intro p k l q k' e
    rw [rmanyT] at e
    cases e1 : rnd b m p k with
    | error z => rw [e1] at e; cases e
    | ok t =>
      obtain ⟨x, z, k2⟩ := t
      rw [e1] at e
      simp only at e
      cases e2 : rmanyT (rnd b m) n z k2 with
      | error y => rw [e2] at e; cases e
      | ok t =>
        obtain ⟨l', r, k3⟩ := t
        rw [e2] at e
        cases e
        obtain ⟨-, -, -, a1, a2⟩ := h p k x z k2 e1
        exact vs_cons a1 a2 (ih z k2 l' q k' e2)
theorem flt_ok {t : T} {d k : Nat} (h1 : k ≤ 4096) (h2 : d ≤ 64) (h3 : TPure.alone t = true) : TMay.flt t d k = 0 := by
  unfold TMay.flt
  rw [if_neg (by omega), if_neg (by omega), if_pos h3]
theorem tg_ok {s : ByteArray} (h : s.size ≤ 4096 ∧ UBase.verr s = 0) : TPure.tg s = true := by
  unfold TPure.tg
  simp [h.1, h.2]
theorem alone_of {g : ByteArray} {n : List (ByteArray × ByteArray)} {l : List T} (hg : ¬ g.size = 0) (h : TMeas.ck [.mk g ⟨#[]⟩ n []] = 0) : TPure.alone (.mk g ⟨#[]⟩ n l) = true := by
  have hz : g.toList.isEmpty = false := by
    rw [TPure.list_eq]
    cases hl : g.data.toList with
    | nil => exact absurd (show g.size = 0 by have := congrArg List.length hl; simpa using this) hg
    | cons c r => rfl
  unfold TMeas.ck at h
  rw [vis_cons] at h
  split at h
  · rename_i hf
    have ha := (TVisit.flt_zero hf).2.2
    unfold TPure.alone at ha ⊢
    simp only [T.g, hz, Bool.false_eq_true, if_false, T.s, T.n] at ha ⊢
    exact ha
  · rename_i hf
    exact absurd h hf
theorem nd_back (b : By) : ∀ (m : Nat), m ≤ 64 → ∀ p k t q k', rnd b m p k = .ok (t, q, k') → Nk b m p k t q k' := by
  intro m
  induction m with
  | zero => intro _ p k t q k' h; rw [rnd] at h; cases h
  | succ m ih =>
    intro hm p k t q k' h
    rw [rnd] at h
    split at h
    · cases h
    rename_i hk
    cases e1 : rtxt b p with
    | error z => rw [e1] at h; cases h
    | ok x =>
    obtain ⟨g, z⟩ := x
    rw [e1] at h
    simp only at h
    obtain ⟨a1, a2, X, a3, a4⟩ := bk_txt b p g z e1
    by_cases hg : g.size = 0
    · rw [if_pos hg] at h
      cases e2 : rtxt b z with
      | error y => rw [e2] at h; cases h
      | ok x =>
      obtain ⟨s, r⟩ := x
      rw [e2] at h
      cases h
      obtain ⟨b1, b2, Y, b3, b4⟩ := bk_txt b z s q e2
      have hg' : g = ⟨#[]⟩ := by
        have : g.data = #[] := Array.eq_empty_of_size_eq_zero hg
        cases g; simp at this; rw [this]
      subst hg'
      refine ⟨by omega, b2, ⟨X ++ Y, ?_, by rw [List.flatten_append, a4, b4, seg_cat a1 b1]⟩, flt_ok (by omega) (by omega) ?_, vs_nil _ _⟩
      · rw [YNd.nd_text (t := .mk ⟨#[]⟩ s [] []) rfl]
        show cat (txt ⟨#[]⟩) (txt s) = _
        rw [a3, b3]
        rfl
      · unfold TPure.alone
        rw [if_pos (show (T.mk ⟨#[]⟩ s [] []).g.toList.isEmpty = true by show (⟨#[]⟩ : ByteArray).toList.isEmpty = true; rw [TPure.list_eq]; rfl)]
        show (decide (([] : List (ByteArray × ByteArray)).length = 0) && (decide (([] : List T).length = 0) && TPure.tg s)) = true
        rw [tg_ok (txt_ok b3)]
        rfl
    · rw [if_neg hg] at h
      cases e2 : rlst 4096 (ratt b) b z with
      | error y => rw [e2] at h; cases h
      | ok x =>
      obtain ⟨n, r⟩ := x
      rw [e2] at h
      simp only at h
      obtain ⟨b1, b2, Y, b3, b4⟩ := bk_lst 4096 (bk_att b) z n r e2
      split at h
      · rename_i hck
        cases e3 : rcnt 4096 b r with
        | error y => rw [e3] at h; cases h
        | ok x =>
        obtain ⟨c, r2⟩ := x
        rw [e3] at h
        simp only at h
        cases e4 : rmanyT (rnd b m) c r2 (k + 1) with
        | error y => rw [e4] at h; cases h
        | ok x =>
        obtain ⟨l, r3, k3⟩ := x
        rw [e4] at h
        cases h
        obtain ⟨c1, c2, Z, c3, c4⟩ := bk_cnt b 4096 r c r2 e3
        have c3 : cnt 4096 (c : Int) = some Z := c3
        obtain ⟨d1, d2, d3, U, d4, d5⟩ := bk_manyT (g := nd) (fun p k x q k' h => ⟨(ih (by omega) p k x q k' h).1, (ih (by omega) p k x q k' h).2.1, (ih (by omega) p k x q k' h).2.2.1⟩) c r2 (k + 1) l q k' c2 e4
        have hv := many_vs (ih (by omega)) c r2 (k + 1) l q k' e4
        refine ⟨by omega, d2, ⟨X ++ (Y ++ (Z ++ U)), ?_, ?_⟩, flt_ok (by omega) (by omega) (alone_of hg hck), ?_⟩
        · rw [YNd.nd_elem (t := .mk g ⟨#[]⟩ n l) hg]
          show cat (txt g) (cat (lst 4096 att n) (lst 4096 nd l)) = _
          unfold lst at b3 ⊢
          rw [a3, b3, d3, c3, d4]
          rfl
        · rw [List.flatten_append, List.flatten_append, List.flatten_append, a4, b4, c4, d5, seg_cat c1 d1, seg_cat b1 (by omega), seg_cat a1 (by omega)]
        · show Vs l _ _ _
          rw [show 65 - (m + 1) + 1 = 65 - m by omega]
          exact hv
      · cases h
theorem stt_back (b : By) {p k : Nat} {t : T} {q k' : Nat} (h : (fun p (_ : Nat) => rnd b 64 p 0) p k = .ok (t, q, k')) : p ≤ q ∧ q ≤ b.length ∧ ∃ Xs, stt t = some Xs ∧ Xs.flatten = seg b p q := by
  obtain ⟨a1, a2, ⟨Xs, a3, a4⟩, a5, a6⟩ := nd_back b 64 (by omega) p 0 t q k' h
  have hck : TMeas.ck [t] = 0 := (vs_one a5 a6 0).1
  exact ⟨a1, a2, Xs, by unfold stt; rw [if_pos hck, a3], a4⟩
theorem prg_back {b : By} {x : Pg} {q : Nat} (h : rprg b = .ok (x, q)) : q = b.length ∧ ∃ Xs, prg x = some Xs ∧ Xs.flatten = b := by
  unfold rprg at h
  obtain ⟨v, p1, e1, h⟩ := bnd_ok h
  split at h
  · rename_i hv
    subst hv
    obtain ⟨x1, p2, e2, h⟩ := bnd_ok h
    obtain ⟨x2, p3, e3, h⟩ := bnd_ok h
    cases e4 : rlstT 4096 (fun p _ => rnd b 64 p 0) b p3 0 with
    | error z => rw [e4] at h; cases h
    | ok t =>
    obtain ⟨x3, p4, k4⟩ := t
    rw [e4] at h
    simp only at h
    obtain ⟨x4, p5, e5, h⟩ := bnd_ok h
    split at h
    · cases h
    · rename_i hp
      cases h
      have f1 := bk_oct b _ _ _ e1
      have f2 := bk_lst 16384 (bk_txt b) _ _ _ e2
      have f3 := bk_lst 8192 (bk_lst 8192 (bk_ins b)) _ _ _ e3
      have f5 := bk_lst 8192 (bk_blk b) _ _ _ e5
      have f4 : p3 ≤ p4 ∧ p4 ≤ b.length ∧ ∃ Xs, lst 4096 stt x3 = some Xs ∧ Xs.flatten = seg b p3 p4 := by
        unfold rlstT at e4
        cases e6 : rcnt 4096 b p3 with
        | error z => rw [e6] at e4; cases e4
        | ok t =>
          obtain ⟨c, r⟩ := t
          rw [e6] at e4
          simp only at e4
          obtain ⟨c1, c2, Z, c3, c4⟩ := bk_cnt b 4096 p3 c r e6
          have c3 : cnt 4096 (c : Int) = some Z := c3
          obtain ⟨d1, d2, d3, U, d4, d5⟩ := bk_manyT (f := fun p _ => rnd b 64 p 0) (g := stt) (fun p k x q k' h => stt_back b (k := k) h) c r 0 x3 p4 k4 c2 e4
          refine ⟨by omega, d2, Z ++ U, ?_, by rw [List.flatten_append, c4, d5, seg_cat c1 d1]⟩
          unfold lst
          rw [d3, c3, d4]
          rfl
      obtain ⟨g1, g2, Xs, g3, g4⟩ := cat_seg f1 (cat_seg f2 (cat_seg f3 (cat_seg f4 f5)))
      have hq : q = b.length := by omega
      refine ⟨hq, Xs, g3, ?_⟩
      rw [g4, hq]
      simp [seg]
  · cases h
/-- What is read, written again, is the same bytes. -/
theorem enc_dec {b : By} {x : Pg} (h : dec b = .ok x) : enc x = .ok b := by
  unfold dec at h
  split at h
  · cases h
  · rename_i hl
    cases e : rprg b with
    | error z => rw [e] at h; cases h
    | ok t =>
      obtain ⟨y, q⟩ := t
      rw [e] at h
      cases h
      obtain ⟨-, Xs, h1, h2⟩ := prg_back e
      have hp := pts_flat Xs [] (by rw [List.nil_append, h2]; omega)
      rw [List.nil_append, h2] at hp
      unfold enc
      rw [h1]
      simp only
      rw [hp, if_neg hl]
end Go.Proofs.Ytgknjjaemjkloaa.YBt

namespace Go.Proofs.Ytgknjjaemjkloaa.YDb
open Go.Proofs.Ytgknjjaemjkloaa.Leb Go.Proofs.Ytgknjjaemjkloaa.YPl Go.Proofs.Ytgknjjaemjkloaa.YRd Go.Proofs.Ytgknjjaemjkloaa.YBk Go.Proofs.Ytgknjjaemjkloaa.YBt
open Go.Proofs.Ytgknjjaemjkloaa.TBase (T)
set_option linter.unusedVariables false

/-- The bytes X stand in b at the place p. -/
def Sd (b : By) (p : Nat) (X : By) : Prop := p + X.length ≤ b.length ∧ (b.drop p).take X.length = X
theorem Sd.left {b : By} {p : Nat} {X Y : By} (h : Sd b p (X ++ Y)) : Sd b p X := by
  obtain ⟨h1, h2⟩ := h
  rw [List.length_append] at h1 h2
  refine ⟨by omega, ?_⟩
  have := congrArg (List.take X.length) h2
  rw [List.take_take, List.take_append_of_le_length (Nat.le_refl _), List.take_length, Nat.min_eq_left (by omega)] at this
  exact this
theorem Sd.right {b : By} {p : Nat} {X Y : By} (h : Sd b p (X ++ Y)) : Sd b (p + X.length) Y := by
  obtain ⟨h1, h2⟩ := h
  rw [List.length_append] at h1 h2
  refine ⟨by omega, ?_⟩
  have := congrArg (List.drop X.length) h2
  rw [List.drop_take, List.drop_drop, List.drop_append_of_le_length (Nat.le_refl _), List.drop_length, List.nil_append, Nat.add_sub_cancel_left] at this
  exact this
/-- What g writes f reads. -/
def Fw {α : Type} (b : By) (f : Nat → Rs α) (g : α → Pc) : Prop := ∀ p x Xs, g x = some Xs → Sd b p Xs.flatten → f p = .ok (x, p + Xs.flatten.length)
theorem tk_of {b : By} {p x : Nat} (hx : x < 18446744073709551616) (h : Sd b p (putL x)) : tk b p = (x, p + (putL x).length, 0) := by
  obtain ⟨h1, h2⟩ := h
  have e : b.drop p = putL x ++ (b.drop p).drop (putL x).length := by
    conv => lhs; rw [← List.take_append_drop (putL x).length (b.drop p)]
    rw [h2]
  have e3 : tk b p = takeGo p (b.drop p) 0 0 := by
    unfold tk
    rw [if_pos ⟨by omega, by omega⟩]
    simp
  rw [e3, e, takeGo_put p _ x x 0 0 (Nat.le_refl _) (by simpa using hx) (.inl rfl)]
  simp
theorem fw_oct (b : By) : Fw b (roct b) oct := by
  intro p x Xs h hs
  unfold oct at h
  split at h
  · rename_i hx
    cases h
    obtain ⟨h1, h2⟩ := hs
    simp only [List.flatten_cons, List.flatten_nil, List.append_nil, List.length_singleton] at h1 h2 ⊢
    have hp : p < b.length := by omega
    rw [List.drop_eq_getElem_cons hp] at h2
    simp only [List.take_succ_cons, List.take_zero, List.cons.injEq, and_true] at h2
    unfold roct
    rw [dif_pos hp, h2, byte_of (by omega)]
    congr 2
    omega
  · cases h
theorem fw_whl (b : By) {x : Int} (h0 : -9223372036854775808 ≤ x) (h1 : x ≤ 9223372036854775807) {p : Nat} {Xs : List By} (h : whl x = some Xs) (hs : Sd b p Xs.flatten) : rwhl b p = .ok (x, p + Xs.flatten.length) := by
  cases h
  simp only [List.flatten_cons, List.flatten_nil, List.append_nil] at hs ⊢
  unfold rwhl
  rw [tk_of (zig_lt h0 h1) hs]
  simp [unz_zig]
theorem fw_cnt (b : By) (lim : Nat) (hl : lim ≤ 16384) {n p : Nat} {Xs : List By} (h : cnt lim (n : Int) = some Xs) (hs : Sd b p Xs.flatten) : n ≤ lim ∧ rcnt lim b p = .ok (n, p + Xs.flatten.length) := by
  unfold cnt at h
  split at h
  · rename_i hx
    cases h
    simp only [Int.toNat_natCast, List.flatten_cons, List.flatten_nil, List.append_nil] at hs ⊢
    have hn : n ≤ lim := by omega
    unfold rcnt
    rw [tk_of (by omega) hs]
    simp [hn]
  · cases h
theorem fw_txt (b : By) : Fw b (rtxt b) txt := by
  intro p s Xs h hs
  unfold txt at h
  split at h
  · rename_i hx
    cases h
    have e : (([putL s.size, s.data.toList] : List By)).flatten = putL s.size ++ s.data.toList := by simp
    rw [e] at hs ⊢
    have h1 := (fw_cnt b 4096 (by omega) (n := s.size) (p := p) (Xs := [putL s.size]) (by unfold cnt; rw [if_pos ⟨by omega, by omega⟩]; simp) (by simpa using hs.left)).2
    obtain ⟨k1, k2⟩ := hs.right
    simp only [List.flatten_cons, List.flatten_nil, List.append_nil] at h1
    have hz : s.data.toList.length = s.size := by simp
    rw [hz] at k1 k2
    have hsub : sub b (p + (putL s.size).length) s.size = s := by
      unfold sub
      rw [k2]
    unfold rtxt
    rw [h1]
    simp only [bnd]
    rw [if_neg (by omega), hsub, if_pos hx.2, List.length_append, hz, Nat.add_assoc]
  · cases h
theorem fw_many {α : Type} {b : By} {f : Nat → Rs α} {g : α → Pc} : ∀ (l : List α) (p : Nat) (Xs : List By), (∀ p x Xs, x ∈ l → g x = some Xs → Sd b p Xs.flatten → f p = .ok (x, p + Xs.flatten.length)) → lis g l = some Xs → Sd b p Xs.flatten → rmany f l.length p = .ok (l, p + Xs.flatten.length) := by
  intro l
  induction l with
  | nil => intro p Xs _ h hs; cases h; rfl
  | cons c l ih =>
    intro p Xs hf h hs
    rw [lis] at h
    obtain ⟨X, Y, h1, h2, rfl⟩ := cat_some h
    rw [List.flatten_append] at hs ⊢
    have e1 := hf p c X (by simp) h1 hs.left
    have e2 := ih (p + X.flatten.length) Y (fun p x Xs hx => hf p x Xs (by simp [hx])) h2 hs.right
    rw [List.length_cons, rmany, e1]
    simp only [bnd]
    rw [e2]
    simp [Nat.add_assoc]
theorem fw_lst {α : Type} {b : By} {f : Nat → Rs α} {g : α → Pc} (lim : Nat) (hl : lim ≤ 16384) {l : List α} {p : Nat} {Xs : List By} (hf : ∀ p x Xs, x ∈ l → g x = some Xs → Sd b p Xs.flatten → f p = .ok (x, p + Xs.flatten.length)) (h : lst lim g l = some Xs) (hs : Sd b p Xs.flatten) : rlst lim f b p = .ok (l, p + Xs.flatten.length) := by
  unfold lst at h
  obtain ⟨X, Y, h1, h2, rfl⟩ := cat_some h
  rw [List.flatten_append] at hs ⊢
  have e1 := (fw_cnt b lim hl h1 hs.left).2
  have e2 := fw_many l (p + X.flatten.length) Y hf h2 hs.right
  unfold rlst
  rw [e1]
  simp only [bnd]
  rw [e2, List.length_append, Nat.add_assoc]
abbrev b64 (x : Int) : Prop := -9223372036854775808 ≤ x ∧ x ≤ 9223372036854775807
theorem fw_bnd {α β : Type} {a : Rs α} {x : α} {q : Nat} {k : α → Nat → Rs β} {r : Rs β} (h1 : a = .ok (x, q)) (h2 : k x q = r) : bnd a k = r := by rw [h1]; exact h2
theorem fw_ins (b : By) {x : Ins} (hx : b64 x.2) {p : Nat} {Xs : List By} (h : ins x = some Xs) (hs : Sd b p Xs.flatten) : rins b p = .ok (x, p + Xs.flatten.length) := by
  unfold ins at h
  obtain ⟨X, Y, h1, h2, rfl⟩ := cat_some h
  rw [List.flatten_append] at hs ⊢
  unfold rins
  refine fw_bnd (fw_oct b p x.1 X h1 hs.left) (fw_bnd (fw_whl b hx.1 hx.2 h2 hs.right) ?_)
  rw [List.length_append, Nat.add_assoc]
theorem fw_att (b : By) {x : ByteArray × ByteArray} {p : Nat} {Xs : List By} (h : att x = some Xs) (hs : Sd b p Xs.flatten) : ratt b p = .ok (x, p + Xs.flatten.length) := by
  unfold att at h
  obtain ⟨X, Y, h1, h2, rfl⟩ := cat_some h
  rw [List.flatten_append] at hs ⊢
  unfold ratt
  refine fw_bnd (fw_txt b p x.1 X h1 hs.left) (fw_bnd (fw_txt b _ x.2 Y h2 hs.right) ?_)
  rw [List.length_append, Nat.add_assoc]
def okO (o : Oq) : Prop := b64 o.a ∧ b64 o.b ∧ b64 o.c ∧ ∀ x ∈ o.l, b64 x
theorem fw_opc (b : By) {x : Oq} (hx : okO x) {p : Nat} {Xs : List By} (h : opc x = some Xs) (hs : Sd b p Xs.flatten) : ropc b p = .ok (x, p + Xs.flatten.length) := by
  unfold opc at h
  obtain ⟨X1, Y1, h1, g1, rfl⟩ := cat_some h
  obtain ⟨X2, Y2, h2, g2, rfl⟩ := cat_some g1
  obtain ⟨X3, Y3, h3, g3, rfl⟩ := cat_some g2
  obtain ⟨X4, X5, h4, h5, rfl⟩ := cat_some g3
  simp only [List.flatten_append] at hs ⊢
  obtain ⟨o1, o2, o3, o4⟩ := hx
  unfold ropc
  refine fw_bnd (fw_oct b p x.k X1 h1 hs.left) (fw_bnd (fw_whl b o1.1 o1.2 h2 hs.right.left) (fw_bnd (fw_whl b o2.1 o2.2 h3 hs.right.right.left) (fw_bnd (fw_whl b o3.1 o3.2 h4 hs.right.right.right.left) (fw_bnd (fw_lst 64 (by omega) (fun p y Xs hy h hs => fw_whl b (o4 y hy).1 (o4 y hy).2 h hs) h5 hs.right.right.right.right) ?_))))
  simp only [List.length_append, Nat.add_assoc]
def okB (x : Bk) : Prop := (∀ o ∈ x.o, okO o) ∧ ∀ u ∈ x.u, b64 u
theorem fw_blk (b : By) {x : Bk} (hx : okB x) {p : Nat} {Xs : List By} (h : blk x = some Xs) (hs : Sd b p Xs.flatten) : rblk b p = .ok (x, p + Xs.flatten.length) := by
  unfold blk at h
  obtain ⟨X1, Y1, h1, g1, rfl⟩ := cat_some h
  obtain ⟨X2, X3, h2, h3, rfl⟩ := cat_some g1
  simp only [List.flatten_append] at hs ⊢
  obtain ⟨n, hn⟩ : ∃ n : Nat, x.d = (n : Int) := by
    unfold cnt at h1
    split at h1
    · rename_i h0; exact ⟨x.d.toNat, by omega⟩
    · cases h1
  rw [hn] at h1
  unfold rblk
  refine fw_bnd (fw_cnt b 64 (by omega) h1 hs.left).2 (fw_bnd (fw_lst 8192 (by omega) (fun p y Xs hy h hs => fw_opc b (hx.1 y hy) h hs) h2 hs.right.left) (fw_bnd (fw_lst 8192 (by omega) (fun p y Xs hy h hs => fw_whl b (hx.2 y hy).1 (hx.2 y hy).2 h hs) h3 hs.right.right) ?_))
  rw [← hn]
  simp only [List.length_append, Nat.add_assoc]
end Go.Proofs.Ytgknjjaemjkloaa.YDb

namespace Go.Proofs.Ytgknjjaemjkloaa.YDt
open Go.Proofs.Ytgknjjaemjkloaa.Leb Go.Proofs.Ytgknjjaemjkloaa.YPl Go.Proofs.Ytgknjjaemjkloaa.YRd Go.Proofs.Ytgknjjaemjkloaa.YBk Go.Proofs.Ytgknjjaemjkloaa.YBt Go.Proofs.Ytgknjjaemjkloaa.YDb
open Go.Proofs.Ytgknjjaemjkloaa.TBase (T)
open Go.Proofs.Ytgknjjaemjkloaa.TVisit (vis vis_cons vis_nil)
set_option linter.unusedVariables false

theorem vis_head {t : T} {l : List T} {d k e : Nat} (h : (vis (t :: l) d k e).2.2 = 0) : TMay.flt t d (k + 1) = 0 ∧ (vis t.l (d + 1) (k + 1) (max e d)).2.2 = 0 ∧ vis (t :: l) d k e = vis l d (vis t.l (d + 1) (k + 1) (max e d)).1 (vis t.l (d + 1) (k + 1) (max e d)).2.1 := by
  rw [vis_cons] at h ⊢
  split at h
  · rename_i h0
    split at h
    · rename_i h1
      exact ⟨h0, h1, by rw [if_pos h0, if_pos h1]⟩
    · rename_i h1; exact absurd h h1
  · rename_i h0; exact absurd h h0
/-- What is known of a tree that may be: it is read where it stands. -/
def Rd (b : By) (m : Nat) : Prop := ∀ (t : T) (p k e : Nat) (Xs : List By), nd t = some Xs → Sd b p Xs.flatten → TMay.flt t (65 - m) (k + 1) = 0 → (vis t.l (65 - m + 1) (k + 1) e).2.2 = 0 → rnd b m p k = .ok (t, p + Xs.flatten.length, (vis t.l (65 - m + 1) (k + 1) e).1)
theorem rd_list {b : By} {m : Nat} (h : Rd b m) : ∀ (l : List T) (p k e : Nat) (Xs : List By), lis nd l = some Xs → Sd b p Xs.flatten → (vis l (65 - m) k e).2.2 = 0 → rmanyT (rnd b m) l.length p k = .ok (l, p + Xs.flatten.length, (vis l (65 - m) k e).1) := by
  intro l
  induction l with
  | nil => intro p k e Xs h1 _ _; cases h1; rw [vis_nil]; rfl
  | cons t l ih =>
    intro p k e Xs h1 hs hv
    rw [lis] at h1
    obtain ⟨X, Y, g1, g2, rfl⟩ := cat_some h1
    rw [List.flatten_append] at hs ⊢
    obtain ⟨v1, v2, v3⟩ := vis_head hv
    rw [v3] at hv ⊢
    have e1 := h t p k _ X g1 hs.left v1 v2
    have e2 := ih (p + X.flatten.length) _ _ Y g2 hs.right hv
    rw [List.length_cons, rmanyT, e1]
    simp only
    rw [e2]
    simp [Nat.add_assoc]
theorem empty_of {g : ByteArray} (h : g.size = 0) : g = ⟨#[]⟩ := by
  have : g.data = #[] := Array.eq_empty_of_size_eq_zero h
  cases g; simp at this; rw [this]
theorem isEmpty_iff (g : ByteArray) : g.toList.isEmpty = decide (g.size = 0) := by
  rw [TPure.list_eq]
  cases hl : g.data.toList with
  | nil => have : g.size = 0 := by have := congrArg List.length hl; simpa using this
           simp [this]
  | cons c r => have : g.size ≠ 0 := by have := congrArg List.length hl; simp at this; intro h; have h' : g.data.size = 0 := h; omega
                simp [this]
theorem rd_all (b : By) : ∀ m, m ≤ 64 → Rd b m := by
  intro m
  induction m with
  | zero =>
    intro _ t p k e Xs h1 hs hf hv
    have := (TVisit.flt_zero hf).2.1
    omega
  | succ m ih =>
    intro hm t p k e Xs h1 hs hf hv
    obtain ⟨f1, f2, f3⟩ := TVisit.flt_zero hf
    obtain ⟨g, s, n, l⟩ := t
    rw [rnd, if_neg (by omega)]
    by_cases hg : g.size = 0
    · obtain rfl := empty_of hg
      unfold TPure.alone at f3
      simp only [T.g, T.n, T.l, T.s, isEmpty_iff, hg, decide_true, if_true, Bool.and_eq_true] at f3
      obtain ⟨f3, f4, f5⟩ := f3
      obtain rfl := List.eq_nil_of_length_eq_zero (of_decide_eq_true f3)
      obtain rfl := List.eq_nil_of_length_eq_zero (of_decide_eq_true f4)
      rw [YNd.nd_text (t := .mk ⟨#[]⟩ s [] []) rfl] at h1
      obtain ⟨X, Y, g1, g2, rfl⟩ := cat_some h1
      have g1 : txt ⟨#[]⟩ = some X := g1
      have g2 : txt s = some Y := g2
      rw [List.flatten_append] at hs ⊢
      rw [fw_txt b p _ X g1 hs.left]
      simp only
      rw [if_pos hg, fw_txt b _ _ Y g2 hs.right]
      simp only [T.l, vis_nil, List.length_append, Nat.add_assoc]
    · have hz : g.toList.isEmpty = false := by rw [isEmpty_iff]; simp [hg]
      have hal := f3
      unfold TPure.alone at f3
      simp only [T.g, T.n, T.s, hz, Bool.false_eq_true, if_false, Bool.and_eq_true] at f3
      have hs0 : s = ⟨#[]⟩ := empty_of (by have := f3.2.1; rw [isEmpty_iff] at this; simpa using this)
      subst hs0
      rw [YNd.nd_elem (t := .mk g ⟨#[]⟩ n l) hg] at h1
      obtain ⟨X, Y1, g1, h2, rfl⟩ := cat_some h1
      obtain ⟨Y, Z, g2, g3, rfl⟩ := cat_some h2
      unfold lst at g3
      obtain ⟨C, U, g4, g5, rfl⟩ := cat_some g3
      have g1 : txt g = some X := g1
      have g2 : lst 4096 att n = some Y := g2
      have g4 : cnt 4096 (l.length : Int) = some C := g4
      have g5 : lis nd l = some U := g5
      simp only [List.flatten_append] at hs ⊢
      have hck : TMeas.ck [.mk g ⟨#[]⟩ n []] = 0 := by
        have ha : TPure.alone (.mk g ⟨#[]⟩ n []) = true := by
          unfold TPure.alone at hal ⊢
          simp only [T.g, T.n, T.s, hz, Bool.false_eq_true, if_false] at hal ⊢
          exact hal
        exact (vs_one (k := 0) (d := 1) (flt_ok (by omega) (by omega) ha) (vs_nil _ _) 0).1
      have e4 := rd_list (ih (by omega)) l _ (k + 1) e U g5 hs.right.right.right (by rw [show 65 - m = 65 - (m + 1) + 1 by omega]; exact hv)
      rw [fw_txt b p _ X g1 hs.left]
      simp only
      rw [if_neg hg, fw_lst 4096 (by omega) (fun p y Xs _ h hs => fw_att b h hs) g2 hs.right.left]
      simp only
      rw [if_pos hck, (fw_cnt b 4096 (by omega) g4 hs.right.right.left).2]
      simp only
      rw [e4]
      simp only [T.l, List.length_append, Nat.add_assoc]
      rw [show 65 - m = 65 - (m + 1) + 1 by omega]
theorem st_list (b : By) : ∀ (l : List T) (p k : Nat) (Xs : List By), lis stt l = some Xs → Sd b p Xs.flatten → ∃ k', rmanyT (fun p _ => rnd b 64 p 0) l.length p k = .ok (l, p + Xs.flatten.length, k') := by
  intro l
  induction l with
  | nil => intro p k Xs h1 _; cases h1; exact ⟨k, rfl⟩
  | cons t l ih =>
    intro p k Xs h1 hs
    rw [lis] at h1
    obtain ⟨X, Y, g1, g2, rfl⟩ := cat_some h1
    rw [List.flatten_append] at hs ⊢
    unfold stt at g1
    split at g1
    · rename_i hck
      unfold TMeas.ck at hck
      obtain ⟨v1, v2, -⟩ := vis_head hck
      have e1 := rd_all b 64 (by omega) t p 0 _ X g1 hs.left v1 v2
      obtain ⟨k', e2⟩ := ih (p + X.flatten.length) _ Y g2 hs.right
      refine ⟨k', ?_⟩
      rw [List.length_cons, rmanyT]
      rw [e1]
      simp only
      rw [e2]
      simp [Nat.add_assoc]
    · cases g1
/-- The numbers of a program fit. -/
def okP (x : Pg) : Prop := (∀ c ∈ x.c, ∀ i ∈ c, b64 i.2) ∧ ∀ k ∈ x.b, okB k
theorem prg_fw {x : Pg} {Xs : List By} (hx : okP x) (h : prg x = some Xs) : rprg Xs.flatten = .ok (x, Xs.flatten.length) := by
  obtain ⟨b, hb⟩ : ∃ b, Xs.flatten = b := ⟨_, rfl⟩
  have hs : Sd b 0 Xs.flatten := ⟨by rw [hb]; omega, by rw [hb]; simp⟩
  rw [hb]
  unfold prg at h
  obtain ⟨X1, Y1, h1, g1, rfl⟩ := cat_some h
  obtain ⟨X2, Y2, h2, g2, rfl⟩ := cat_some g1
  obtain ⟨X3, Y3, h3, g3, rfl⟩ := cat_some g2
  obtain ⟨X4, X5, h4, h5, rfl⟩ := cat_some g3
  have hl := congrArg List.length hb
  simp only [List.flatten_append] at hs
  simp only [List.flatten_append, List.length_append] at hl
  unfold rprg
  refine fw_bnd (fw_oct b 0 1 X1 h1 hs.left) ?_
  rw [if_pos rfl]
  refine fw_bnd (fw_lst 16384 (by omega) (fun p y Xs _ h hs => fw_txt b p y Xs h hs) h2 hs.right.left) (fw_bnd (fw_lst 8192 (by omega) (fun p y Xs hy h hs => fw_lst 8192 (by omega) (fun p z Xs hz h hs => fw_ins b (hx.1 y hy z hz) h hs) h hs) h3 hs.right.right.left) ?_)
  unfold lst at h4
  obtain ⟨C, U, j1, j2, rfl⟩ := cat_some h4
  simp only [List.flatten_append] at hs hl
  obtain ⟨k', e4⟩ := st_list b x.s _ 0 U j2 hs.right.right.right.left.right
  have e5 : rlstT 4096 (fun p _ => rnd b 64 p 0) b (0 + X1.flatten.length + X2.flatten.length + X3.flatten.length) 0 = .ok (x.s, 0 + X1.flatten.length + X2.flatten.length + X3.flatten.length + C.flatten.length + U.flatten.length, k') := by
    unfold rlstT
    rw [(fw_cnt b 4096 (by omega) j1 hs.right.right.right.left.left).2]
    exact e4
  rw [e5]
  simp only
  have hs5 := hs.right.right.right.right
  rw [List.length_append, ← Nat.add_assoc] at hs5
  refine fw_bnd (fw_lst 8192 (by omega) (fun p y Xs hy h hs => fw_blk b (hx.2 y hy) h hs) h5 hs5) ?_
  rw [List.length_append] at hl
  have e : 0 + X1.flatten.length + X2.flatten.length + X3.flatten.length + C.flatten.length + U.flatten.length + X5.flatten.length = b.length := by omega
  rw [e, if_neg (by omega)]
theorem pts_full : ∀ (Xs : List By) (L : By), 1048576 < L.length → pts L Xs = L := by
  intro Xs
  induction Xs with
  | nil => intro L _; rfl
  | cons X Xs ih =>
    intro L h
    show pts (pt L X) Xs = L
    rw [show pt L X = L by unfold pt; rw [if_pos h]]
    exact ih L h
theorem pts_small : ∀ (Xs : List By) (L : By), (pts L Xs).length ≤ 1048576 → pts L Xs = L ++ Xs.flatten := by
  intro Xs
  induction Xs with
  | nil => intro L _; simp [pts]
  | cons X Xs ih =>
    intro L h
    by_cases hl : 1048576 < L.length
    · rw [pts_full _ _ hl] at h; omega
    · have e : pts L (X :: Xs) = pts (L ++ X) Xs := by show pts (pt L X) Xs = _; rw [show pt L X = L ++ X by unfold pt; rw [if_neg hl]]
      rw [e] at h ⊢
      rw [ih _ h]
      simp
/-- What is written is read again. -/
theorem dec_enc {x : Pg} {b : By} (hx : okP x) (h : enc x = .ok b) : dec b = .ok x := by
  unfold enc at h
  cases e : prg x with
  | none => rw [e] at h; cases h
  | some Xs =>
    rw [e] at h
    simp only at h
    split at h
    · cases h
    · rename_i hl
      cases h
      have hp : pts [] Xs = Xs.flatten := by rw [pts_small Xs [] (by omega)]; rfl
      rw [hp] at hl ⊢
      unfold dec
      rw [if_neg hl, prg_fw hx e]
end Go.Proofs.Ytgknjjaemjkloaa.YDt

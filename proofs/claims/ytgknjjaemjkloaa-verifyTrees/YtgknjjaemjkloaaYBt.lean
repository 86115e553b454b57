/- What is read, written again, is the same bytes: trees, programs. -/
import Derived.Test.YtgknjjaemjkloaaYRd
import Derived.Test.YtgknjjaemjkloaaYNd
namespace Go.Proofs.Ytgknjjaemjkloaa.YBk
open Go.Proofs.Ytgknjjaemjkloaa.Leb Go.Proofs.Ytgknjjaemjkloaa.YPl Go.Proofs.Ytgknjjaemjkloaa.YRd
open Go.Proofs.Ytgknjjaemjkloaa.TBase (T)
set_option linter.unusedVariables false

def seg (b : By) (p q : Nat) : By := (b.drop p).take (q - p)
theorem seg_cat {b : By} {p q r : Nat} (h1 : p ≤ q) (h2 : q ≤ r) : seg b p q ++ seg b q r = seg b p r := by
  unfold seg
  have e : b.drop q = (b.drop p).drop (q - p) := by rw [List.drop_drop]; congr 1; omega
  rw [e, show r - p = (q - p) + (r - q) by omega, List.take_add]
theorem seg_self (b : By) (p : Nat) : seg b p p = [] := by unfold seg; simp
theorem pts_flat : ∀ (Xs : List By) (L : By), (L ++ Xs.flatten).length ≤ 1048576 → pts L Xs = L ++ Xs.flatten := by
  intro Xs
  induction Xs with
  | nil => intro L h; simp [pts]
  | cons X Xs ih =>
    intro L h
    have hl : ¬ 1048576 < L.length := by simp at h; omega
    show pts (pt L X) Xs = _
    rw [show pt L X = L ++ X by unfold pt; rw [if_neg hl], ih _ (by simpa using h)]
    simp
/-- What f reads at a place is what g writes. -/
def Bk {α : Type} (b : By) (f : Nat → Rs α) (g : α → Pc) : Prop := ∀ p x q, f p = .ok (x, q) → p ≤ q ∧ q ≤ b.length ∧ ∃ Xs, g x = some Xs ∧ Xs.flatten = seg b p q
theorem bnd_ok {α β : Type} {a : Rs α} {f : α → Nat → Rs β} {y : β} {r : Nat} (h : bnd a f = .ok (y, r)) : ∃ x q, a = .ok (x, q) ∧ f x q = .ok (y, r) := by
  cases a with
  | error z => cases h
  | ok t => obtain ⟨x, q⟩ := t; exact ⟨x, q, rfl, h⟩
theorem bk_oct (b : By) : Bk b (roct b) oct := by
  intro p x q h
  unfold roct at h
  split at h
  · rename_i hp
    cases h
    refine ⟨by omega, by omega, [[b[p]]], ?_, ?_⟩
    · unfold oct
      have := b[p].toNat_lt
      rw [if_pos ⟨by omega, by omega⟩]
      simp
    · unfold seg
      rw [show p + 1 - p = 1 by omega, List.drop_eq_getElem_cons hp]
      rfl
  · cases h
theorem zig_unz (x : Nat) : zig (unz x) = x := by unfold zig unz; split <;> split <;> omega
theorem tk_seg {b : By} {p : Nat} (h : (tk b p).2.2 = 0) : p ≤ (tk b p).2.1 ∧ (tk b p).2.1 ≤ b.length ∧ putL (tk b p).1 = seg b p (tk b p).2.1 := by
  obtain ⟨n, h1, h2, h3, h4, h5, -⟩ := tk_back h
  simp only [Int.toNat_natCast] at h3 h4 h5
  refine ⟨by omega, by omega, ?_⟩
  rw [h5, h4]
  unfold seg
  rw [show p + n - p = n by omega]
theorem bk_whl (b : By) : Bk b (rwhl b) whl := by
  intro p x q h
  unfold rwhl at h
  simp only at h
  split at h
  · rename_i h0
    cases h
    obtain ⟨h1, h2, h3⟩ := tk_seg h0
    exact ⟨h1, h2, _, rfl, by rw [zig_unz]; simpa using h3⟩
  · cases h
theorem bk_cnt (b : By) (lim : Nat) : Bk b (rcnt lim b) (fun n => cnt lim (n : Int)) := by
  intro p x q h
  unfold rcnt at h
  simp only at h
  split at h
  · rename_i h0
    cases h
    obtain ⟨h1, h2, h3⟩ := tk_seg h0.1
    refine ⟨h1, h2, [putL (tk b p).1], ?_, by simpa using h3⟩
    show cnt lim ((tk b p).1 : Int) = _
    unfold cnt
    rw [if_pos ⟨by omega, by omega⟩]
    simp
  · cases h
theorem bk_cat {α β : Type} {b : By} {f : Nat → Rs α} {g : α → Pc} {f2 : Nat → Rs β} {g2 : β → Pc} (h1 : Bk b f g) (h2 : Bk b f2 g2) {p : Nat} {x : α} {q : Nat} {y : β} {r : Nat} (e1 : f p = .ok (x, q)) (e2 : f2 q = .ok (y, r)) : p ≤ r ∧ r ≤ b.length ∧ ∃ Xs, cat (g x) (g2 y) = some Xs ∧ Xs.flatten = seg b p r := by
  obtain ⟨a1, a2, X, a3, a4⟩ := h1 p x q e1
  obtain ⟨b1, b2, Y, b3, b4⟩ := h2 q y r e2
  exact ⟨by omega, b2, X ++ Y, by rw [a3, b3]; rfl, by rw [List.flatten_append, a4, b4, seg_cat a1 b1]⟩
theorem bk_txt (b : By) : Bk b (rtxt b) txt := by
  intro p x q h
  unfold rtxt at h
  obtain ⟨n, z, h1, h2⟩ := bnd_ok h
  split at h2
  · cases h2
  · rename_i hl
    split at h2
    · rename_i hv
      cases h2
      obtain ⟨a1, a2, X, a3, a4⟩ := bk_cnt b 4096 p n z h1
      have a3 : cnt 4096 (n : Int) = some X := a3
      have hs : (sub b z n).size = n := by show ((b.drop z).take n).toArray.size = n; simp; omega
      have hn : n ≤ 4096 := by
        unfold cnt at a3
        split at a3
        · rename_i h0; omega
        · cases a3
      refine ⟨by omega, by omega, [putL (sub b z n).size, (sub b z n).data.toList], ?_, ?_⟩
      · unfold txt; rw [if_pos ⟨by omega, hv⟩]
      · have e1 : X.flatten = putL n := by
          unfold cnt at a3
          split at a3
          · cases a3; simp
          · cases a3
        rw [hs, ← seg_cat a1 (show z ≤ z + n by omega), ← a4, e1]
        simp [sub, seg]
    · cases h2
theorem bk_many {α : Type} {b : By} {f : Nat → Rs α} {g : α → Pc} (h : Bk b f g) : ∀ (n p : Nat) (l : List α) (q : Nat), p ≤ b.length → rmany f n p = .ok (l, q) → p ≤ q ∧ q ≤ b.length ∧ l.length = n ∧ ∃ Xs, lis g l = some Xs ∧ Xs.flatten = seg b p q := by
  intro n
  induction n with
  | zero => intro p l q hp e; rw [rmany] at e; cases e; exact ⟨Nat.le_refl _, hp, rfl, [], rfl, by rw [seg_self]; rfl⟩
  | succ n ih =>
    intro p l q hp e
    rw [rmany] at e
    obtain ⟨x, z, e1, e2⟩ := bnd_ok e
    obtain ⟨l', r, e3, e4⟩ := bnd_ok e2
    cases e4
    obtain ⟨a1, a2, X, a3, a4⟩ := h p x z e1
    obtain ⟨b1, b2, b3, Y, b4, b5⟩ := ih z l' q a2 e3
    exact ⟨by omega, b2, by simp [b3], X ++ Y, by rw [lis, a3, b4]; rfl, by rw [List.flatten_append, a4, b5, seg_cat a1 b1]⟩
theorem bk_lst {α : Type} {b : By} {f : Nat → Rs α} {g : α → Pc} (lim : Nat) (h : Bk b f g) : Bk b (rlst lim f b) (lst lim g) := by
  intro p l q e
  unfold rlst at e
  obtain ⟨n, z, e1, e2⟩ := bnd_ok e
  obtain ⟨a1, a2, X, a3, a4⟩ := bk_cnt b lim p n z e1
  obtain ⟨b1, b2, b3, Y, b4, b5⟩ := bk_many h n z l q a2 e2
  refine ⟨by omega, b2, X ++ Y, ?_, by rw [List.flatten_append, a4, b5, seg_cat a1 b1]⟩
  unfold lst
  simp only at a3
  rw [b3, a3, b4]
  rfl
theorem bk_ins (b : By) : Bk b (rins b) ins := by
  intro p x q h
  unfold rins at h
  obtain ⟨x1, p1, e1, h⟩ := bnd_ok h
  obtain ⟨x2, p2, e2, h⟩ := bnd_ok h
  cases h
  exact bk_cat (bk_oct b) (bk_whl b) e1 e2
theorem bk_att (b : By) : Bk b (ratt b) att := by
  intro p x q h
  unfold ratt at h
  obtain ⟨x1, p1, e1, h⟩ := bnd_ok h
  obtain ⟨x2, p2, e2, h⟩ := bnd_ok h
  cases h
  exact bk_cat (bk_txt b) (bk_txt b) e1 e2
theorem cat_seg {b : By} {p q r : Nat} {g1 g2 : Pc} (h1 : p ≤ q ∧ q ≤ b.length ∧ ∃ Xs, g1 = some Xs ∧ Xs.flatten = seg b p q) (h2 : q ≤ r ∧ r ≤ b.length ∧ ∃ Xs, g2 = some Xs ∧ Xs.flatten = seg b q r) : p ≤ r ∧ r ≤ b.length ∧ ∃ Xs, cat g1 g2 = some Xs ∧ Xs.flatten = seg b p r := by
  obtain ⟨a1, a2, X, a3, a4⟩ := h1
  obtain ⟨b1, b2, Y, b3, b4⟩ := h2
  exact ⟨by omega, b2, X ++ Y, by rw [a3, b3]; rfl, by rw [List.flatten_append, a4, b4, seg_cat a1 b1]⟩
theorem bk_opc (b : By) : Bk b (ropc b) opc := by
  intro p x q h
  unfold ropc at h
  obtain ⟨x1, p1, e1, h⟩ := bnd_ok h
  obtain ⟨x2, p2, e2, h⟩ := bnd_ok h
  obtain ⟨x3, p3, e3, h⟩ := bnd_ok h
  obtain ⟨x4, p4, e4, h⟩ := bnd_ok h
  obtain ⟨x5, p5, e5, h⟩ := bnd_ok h
  cases h
  exact cat_seg (bk_oct b _ _ _ e1) (cat_seg (bk_whl b _ _ _ e2) (cat_seg (bk_whl b _ _ _ e3) (cat_seg (bk_whl b _ _ _ e4) (bk_lst 64 (bk_whl b) _ _ _ e5))))
theorem bk_blk (b : By) : Bk b (rblk b) blk := by
  intro p x q h
  unfold rblk at h
  obtain ⟨x1, p1, e1, h⟩ := bnd_ok h
  obtain ⟨x2, p2, e2, h⟩ := bnd_ok h
  obtain ⟨x3, p3, e3, h⟩ := bnd_ok h
  cases h
  exact cat_seg (bk_cnt b 64 _ _ _ e1) (cat_seg (bk_lst 8192 (bk_opc b) _ _ _ e2) (bk_lst 8192 (bk_whl b) _ _ _ e3))
end Go.Proofs.Ytgknjjaemjkloaa.YBk

namespace Go.Proofs.Ytgknjjaemjkloaa.YBt
open Go.Proofs.Ytgknjjaemjkloaa.Leb Go.Proofs.Ytgknjjaemjkloaa.YPl Go.Proofs.Ytgknjjaemjkloaa.YRd Go.Proofs.Ytgknjjaemjkloaa.YBk
open Go.Proofs.Ytgknjjaemjkloaa.TBase (T)
open Go.Proofs.Ytgknjjaemjkloaa.TVisit (vis vis_cons vis_nil)
set_option linter.unusedVariables false

theorem bk_manyT {b : By} {f : Nat → Nat → Rt T} {g : T → Pc} (h : ∀ p k x q k', f p k = .ok (x, q, k') → p ≤ q ∧ q ≤ b.length ∧ ∃ Xs, g x = some Xs ∧ Xs.flatten = seg b p q) : ∀ (n p k : Nat) (l : List T) (q k' : Nat), p ≤ b.length → rmanyT f n p k = .ok (l, q, k') → p ≤ q ∧ q ≤ b.length ∧ l.length = n ∧ ∃ Xs, lis g l = some Xs ∧ Xs.flatten = seg b p q := by
  intro n
  induction n with
  | zero => intro p k l q k' hp e; rw [rmanyT] at e; cases e; exact ⟨Nat.le_refl _, hp, rfl, [], rfl, by rw [seg_self]; rfl⟩
  | succ n ih =>
    intro p k l q k' hp e
    rw [rmanyT] at e
    cases e1 : f p k with
    | error z => rw [e1] at e; cases e
    | ok t =>
      obtain ⟨x, z, k2⟩ := t
      rw [e1] at e
      simp only at e
      cases e2 : rmanyT f n z k2 with
      | error y => rw [e2] at e; cases e
      | ok t =>
        obtain ⟨l', r, k3⟩ := t
        rw [e2] at e
        cases e
        obtain ⟨a1, a2, X, a3, a4⟩ := h p k x z k2 e1
        obtain ⟨b1, b2, b3, Y, b4, b5⟩ := ih z k2 l' q k' a2 e2
        exact ⟨by omega, b2, by simp [b3], X ++ Y, by rw [lis, a3, b4]; rfl, by rw [List.flatten_append, a4, b5, seg_cat a1 b1]⟩
/-- The nodes as forest.Check counts them. -/
def Vs (l : List T) (d k k' : Nat) : Prop := ∀ e, (vis l d k e).2.2 = 0 ∧ (vis l d k e).1 = k'
theorem vs_cons {t : T} {l : List T} {d k k1 k2 : Nat} (h0 : TMay.flt t d (k + 1) = 0) (h1 : Vs t.l (d + 1) (k + 1) k1) (h2 : Vs l d k1 k2) : Vs (t :: l) d k k2 := by
  intro e
  rw [vis_cons, if_pos h0, if_pos (h1 _).1, (h1 _).2]
  exact h2 _
theorem vs_nil (d k : Nat) : Vs [] d k k := by intro e; rw [vis_nil]; exact ⟨rfl, rfl⟩
theorem vs_one {t : T} {d k k1 : Nat} (h0 : TMay.flt t d (k + 1) = 0) (h1 : Vs t.l (d + 1) (k + 1) k1) : Vs [t] d k k1 := vs_cons h0 h1 (vs_nil _ _)
theorem txt_ok {s : ByteArray} {Xs : List By} (h : txt s = some Xs) : s.size ≤ 4096 ∧ UBase.verr s = 0 := by
  unfold txt at h
  split at h
  · assumption
  · cases h
/-- What is known of a node that was read where m depths are left. -/
def Nk (b : By) (m p k : Nat) (t : T) (q k' : Nat) : Prop := p ≤ q ∧ q ≤ b.length ∧ (∃ Xs, nd t = some Xs ∧ Xs.flatten = seg b p q) ∧ TMay.flt t (65 - m) (k + 1) = 0 ∧ Vs t.l (65 - m + 1) (k + 1) k'
theorem many_vs {b : By} {m : Nat} (h : ∀ p k t q k', rnd b m p k = .ok (t, q, k') → Nk b m p k t q k') : ∀ (n p k : Nat) (l : List T) (q k' : Nat), rmanyT (rnd b m) n p k = .ok (l, q, k') → Vs l (65 - m) k k' := by
  intro n
  induction n with
  | zero => intro p k l q k' e; rw [rmanyT] at e; cases e; exact vs_nil _ _
  | succ n ih =>
    intro p k l q k' e
    rw [rmanyT] at e
    cases e1 : rnd b m p k with
    | error z => rw [e1] at e; cases e
    | ok t =>
      obtain ⟨x, z, k2⟩ := t
      rw [e1] at e
      simp only at e
      cases e2 : rmanyT (rnd b m) n z k2 with
      | error y => rw [e2] at e; cases e
      | ok t =>
        obtain ⟨l', r, k3⟩ := t
        rw [e2] at e
        cases e
        obtain ⟨-, -, -, a1, a2⟩ := h p k x z k2 e1
        exact vs_cons a1 a2 (ih z k2 l' q k' e2)
theorem flt_ok {t : T} {d k : Nat} (h1 : k ≤ 4096) (h2 : d ≤ 64) (h3 : TPure.alone t = true) : TMay.flt t d k = 0 := by
  unfold TMay.flt
  rw [if_neg (by omega), if_neg (by omega), if_pos h3]
theorem tg_ok {s : ByteArray} (h : s.size ≤ 4096 ∧ UBase.verr s = 0) : TPure.tg s = true := by
  unfold TPure.tg
  simp [h.1, h.2]
theorem alone_of {g : ByteArray} {n : List (ByteArray × ByteArray)} {l : List T} (hg : ¬ g.size = 0) (h : TMeas.ck [.mk g ⟨#[]⟩ n []] = 0) : TPure.alone (.mk g ⟨#[]⟩ n l) = true := by
  have hz : g.toList.isEmpty = false := by
    rw [TPure.list_eq]
    cases hl : g.data.toList with
    | nil => exact absurd (show g.size = 0 by have := congrArg List.length hl; simpa using this) hg
    | cons c r => rfl
  unfold TMeas.ck at h
  rw [vis_cons] at h
  split at h
  · rename_i hf
    have ha := (TVisit.flt_zero hf).2.2
    unfold TPure.alone at ha ⊢
    simp only [T.g, hz, Bool.false_eq_true, if_false, T.s, T.n] at ha ⊢
    exact ha
  · rename_i hf
    exact absurd h hf
theorem nd_back (b : By) : ∀ (m : Nat), m ≤ 64 → ∀ p k t q k', rnd b m p k = .ok (t, q, k') → Nk b m p k t q k' := by
  intro m
  induction m with
  | zero => intro _ p k t q k' h; rw [rnd] at h; cases h
  | succ m ih =>
    intro hm p k t q k' h
    rw [rnd] at h
    split at h
    · cases h
    rename_i hk
    cases e1 : rtxt b p with
    | error z => rw [e1] at h; cases h
    | ok x =>
    obtain ⟨g, z⟩ := x
    rw [e1] at h
    simp only at h
    obtain ⟨a1, a2, X, a3, a4⟩ := bk_txt b p g z e1
    by_cases hg : g.size = 0
    · rw [if_pos hg] at h
      cases e2 : rtxt b z with
      | error y => rw [e2] at h; cases h
      | ok x =>
      obtain ⟨s, r⟩ := x
      rw [e2] at h
      cases h
      obtain ⟨b1, b2, Y, b3, b4⟩ := bk_txt b z s q e2
      have hg' : g = ⟨#[]⟩ := by
        have : g.data = #[] := Array.eq_empty_of_size_eq_zero hg
        cases g; simp at this; rw [this]
      subst hg'
      refine ⟨by omega, b2, ⟨X ++ Y, ?_, by rw [List.flatten_append, a4, b4, seg_cat a1 b1]⟩, flt_ok (by omega) (by omega) ?_, vs_nil _ _⟩
      · rw [YNd.nd_text (t := .mk ⟨#[]⟩ s [] []) rfl]
        show cat (txt ⟨#[]⟩) (txt s) = _
        rw [a3, b3]
        rfl
      · unfold TPure.alone
        rw [if_pos (show (T.mk ⟨#[]⟩ s [] []).g.toList.isEmpty = true by show (⟨#[]⟩ : ByteArray).toList.isEmpty = true; rw [TPure.list_eq]; rfl)]
        show (decide (([] : List (ByteArray × ByteArray)).length = 0) && (decide (([] : List T).length = 0) && TPure.tg s)) = true
        rw [tg_ok (txt_ok b3)]
        rfl
    · rw [if_neg hg] at h
      cases e2 : rlst 4096 (ratt b) b z with
      | error y => rw [e2] at h; cases h
      | ok x =>
      obtain ⟨n, r⟩ := x
      rw [e2] at h
      simp only at h
      obtain ⟨b1, b2, Y, b3, b4⟩ := bk_lst 4096 (bk_att b) z n r e2
      split at h
      · rename_i hck
        cases e3 : rcnt 4096 b r with
        | error y => rw [e3] at h; cases h
        | ok x =>
        obtain ⟨c, r2⟩ := x
        rw [e3] at h
        simp only at h
        cases e4 : rmanyT (rnd b m) c r2 (k + 1) with
        | error y => rw [e4] at h; cases h
        | ok x =>
        obtain ⟨l, r3, k3⟩ := x
        rw [e4] at h
        cases h
        obtain ⟨c1, c2, Z, c3, c4⟩ := bk_cnt b 4096 r c r2 e3
        have c3 : cnt 4096 (c : Int) = some Z := c3
        obtain ⟨d1, d2, d3, U, d4, d5⟩ := bk_manyT (g := nd) (fun p k x q k' h => ⟨(ih (by omega) p k x q k' h).1, (ih (by omega) p k x q k' h).2.1, (ih (by omega) p k x q k' h).2.2.1⟩) c r2 (k + 1) l q k' c2 e4
        have hv := many_vs (ih (by omega)) c r2 (k + 1) l q k' e4
        refine ⟨by omega, d2, ⟨X ++ (Y ++ (Z ++ U)), ?_, ?_⟩, flt_ok (by omega) (by omega) (alone_of hg hck), ?_⟩
        · rw [YNd.nd_elem (t := .mk g ⟨#[]⟩ n l) hg]
          show cat (txt g) (cat (lst 4096 att n) (lst 4096 nd l)) = _
          unfold lst at b3 ⊢
          rw [a3, b3, d3, c3, d4]
          rfl
        · rw [List.flatten_append, List.flatten_append, List.flatten_append, a4, b4, c4, d5, seg_cat c1 d1, seg_cat b1 (by omega), seg_cat a1 (by omega)]
        · show Vs l _ _ _
          rw [show 65 - (m + 1) + 1 = 65 - m by omega]
          exact hv
      · cases h
theorem stt_back (b : By) {p k : Nat} {t : T} {q k' : Nat} (h : (fun p (_ : Nat) => rnd b 64 p 0) p k = .ok (t, q, k')) : p ≤ q ∧ q ≤ b.length ∧ ∃ Xs, stt t = some Xs ∧ Xs.flatten = seg b p q := by
  obtain ⟨a1, a2, ⟨Xs, a3, a4⟩, a5, a6⟩ := nd_back b 64 (by omega) p 0 t q k' h
  have hck : TMeas.ck [t] = 0 := (vs_one a5 a6 0).1
  exact ⟨a1, a2, Xs, by unfold stt; rw [if_pos hck, a3], a4⟩
theorem prg_back {b : By} {x : Pg} {q : Nat} (h : rprg b = .ok (x, q)) : q = b.length ∧ ∃ Xs, prg x = some Xs ∧ Xs.flatten = b := by
  unfold rprg at h
  obtain ⟨v, p1, e1, h⟩ := bnd_ok h
  split at h
  · rename_i hv
    subst hv
    obtain ⟨x1, p2, e2, h⟩ := bnd_ok h
    obtain ⟨x2, p3, e3, h⟩ := bnd_ok h
    cases e4 : rlstT 4096 (fun p _ => rnd b 64 p 0) b p3 0 with
    | error z => rw [e4] at h; cases h
    | ok t =>
    obtain ⟨x3, p4, k4⟩ := t
    rw [e4] at h
    simp only at h
    obtain ⟨x4, p5, e5, h⟩ := bnd_ok h
    split at h
    · cases h
    · rename_i hp
      cases h
      have f1 := bk_oct b _ _ _ e1
      have f2 := bk_lst 16384 (bk_txt b) _ _ _ e2
      have f3 := bk_lst 8192 (bk_lst 8192 (bk_ins b)) _ _ _ e3
      have f5 := bk_lst 8192 (bk_blk b) _ _ _ e5
      have f4 : p3 ≤ p4 ∧ p4 ≤ b.length ∧ ∃ Xs, lst 4096 stt x3 = some Xs ∧ Xs.flatten = seg b p3 p4 := by
        unfold rlstT at e4
        cases e6 : rcnt 4096 b p3 with
        | error z => rw [e6] at e4; cases e4
        | ok t =>
          obtain ⟨c, r⟩ := t
          rw [e6] at e4
          simp only at e4
          obtain ⟨c1, c2, Z, c3, c4⟩ := bk_cnt b 4096 p3 c r e6
          have c3 : cnt 4096 (c : Int) = some Z := c3
          obtain ⟨d1, d2, d3, U, d4, d5⟩ := bk_manyT (f := fun p _ => rnd b 64 p 0) (g := stt) (fun p k x q k' h => stt_back b (k := k) h) c r 0 x3 p4 k4 c2 e4
          refine ⟨by omega, d2, Z ++ U, ?_, by rw [List.flatten_append, c4, d5, seg_cat c1 d1]⟩
          unfold lst
          rw [d3, c3, d4]
          rfl
      obtain ⟨g1, g2, Xs, g3, g4⟩ := cat_seg f1 (cat_seg f2 (cat_seg f3 (cat_seg f4 f5)))
      have hq : q = b.length := by omega
      refine ⟨hq, Xs, g3, ?_⟩
      rw [g4, hq]
      simp [seg]
  · cases h
/-- What is read, written again, is the same bytes. -/
theorem enc_dec {b : By} {x : Pg} (h : dec b = .ok x) : enc x = .ok b := by
  unfold dec at h
  split at h
  · cases h
  · rename_i hl
    cases e : rprg b with
    | error z => rw [e] at h; cases h
    | ok t =>
      obtain ⟨y, q⟩ := t
      rw [e] at h
      cases h
      obtain ⟨-, Xs, h1, h2⟩ := prg_back e
      have hp := pts_flat Xs [] (by rw [List.nil_append, h2]; omega)
      rw [List.nil_append, h2] at hp
      unfold enc
      rw [h1]
      simp only
      rw [hp, if_neg hl]
end Go.Proofs.Ytgknjjaemjkloaa.YBt

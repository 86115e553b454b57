/- What is read, written again, is the same bytes: trees, programs. -/
import Derived.Test.YthclndiekjaalaaYBk
import Derived.Test.YthclndiekjaalaaYNd
namespace Go.Proofs.Ythclndiekjaalaa.YBt
open Go.Proofs.Ythclndiekjaalaa.Leb Go.Proofs.Ythclndiekjaalaa.YPl Go.Proofs.Ythclndiekjaalaa.YRd Go.Proofs.Ythclndiekjaalaa.YBk
open Go.Proofs.Ythclndiekjaalaa.TBase (T)
open Go.Proofs.Ythclndiekjaalaa.TVisit (vis vis_cons vis_nil)
set_option linter.unusedVariables false

theorem bk_manyT {b : By} {f : Nat → Nat → Rt T} {g : T → Pc} (h : ∀ p k x q k', f p k = .ok (x, q, k') → p ≤ q ∧ q ≤ b.length ∧ ∃ Xs, g x = some Xs ∧ Xs.flatten = seg b p q) : ∀ (n p k : Nat) (l : List T) (q k' : Nat), p ≤ b.length → rmanyT f n p k = .ok (l, q, k') → p ≤ q ∧ q ≤ b.length ∧ l.length = n ∧ ∃ Xs, lis g l = some Xs ∧ Xs.flatten = seg b p q := by
  intro n
  induction n with
  | zero => intro p k l q k' hp e; rw [rmanyT] at e; cases e; exact ⟨Nat.le_refl _, hp, rfl, [], rfl, by rw [seg_self]; rfl⟩
  | succ n ih =>
    intro p k l q k' hp e
    rw [rmanyT] at e
    cases e1 : f p k with
    | error z => rw [e1] at e; cases e
    | ok t =>
      obtain ⟨x, z, k2⟩ := t
      rw [e1] at e
      simp only at e
      cases e2 : rmanyT f n z k2 with
      | error y => rw [e2] at e; cases e
      | ok t =>
        obtain ⟨l', r, k3⟩ := t
        rw [e2] at e
        cases e
        obtain ⟨a1, a2, X, a3, a4⟩ := h p k x z k2 e1
        obtain ⟨b1, b2, b3, Y, b4, b5⟩ := ih z k2 l' q k' a2 e2
        exact ⟨by omega, b2, by simp [b3], X ++ Y, by rw [lis, a3, b4]; rfl, by rw [List.flatten_append, a4, b5, seg_cat a1 b1]⟩
/-- The nodes as forest.Check counts them. -/
def Vs (l : List T) (d k k' : Nat) : Prop := ∀ e, (vis l d k e).2.2 = 0 ∧ (vis l d k e).1 = k'
theorem vs_cons {t : T} {l : List T} {d k k1 k2 : Nat} (h0 : TMay.flt t d (k + 1) = 0) (h1 : Vs t.l (d + 1) (k + 1) k1) (h2 : Vs l d k1 k2) : Vs (t :: l) d k k2 := by
  intro e
  rw [vis_cons, if_pos h0, if_pos (h1 _).1, (h1 _).2]
  exact h2 _
theorem vs_nil (d k : Nat) : Vs [] d k k := by intro e; rw [vis_nil]; exact ⟨rfl, rfl⟩
theorem vs_one {t : T} {d k k1 : Nat} (h0 : TMay.flt t d (k + 1) = 0) (h1 : Vs t.l (d + 1) (k + 1) k1) : Vs [t] d k k1 := vs_cons h0 h1 (vs_nil _ _)
theorem txt_ok {s : ByteArray} {Xs : List By} (h : txt s = some Xs) : s.size ≤ 4096 ∧ UBase.verr s = 0 := by
  unfold txt at h
  split at h
  · assumption
  · cases h
/-- What is known of a node that was read where m depths are left. -/
def Nk (b : By) (m p k : Nat) (t : T) (q k' : Nat) : Prop := p ≤ q ∧ q ≤ b.length ∧ (∃ Xs, nd t = some Xs ∧ Xs.flatten = seg b p q) ∧ TMay.flt t (65 - m) (k + 1) = 0 ∧ Vs t.l (65 - m + 1) (k + 1) k'
theorem many_vs {b : By} {m : Nat} (h : ∀ p k t q k', rnd b m p k = .ok (t, q, k') → Nk b m p k t q k') : ∀ (n p k : Nat) (l : List T) (q k' : Nat), rmanyT (rnd b m) n p k = .ok (l, q, k') → Vs l (65 - m) k k' := by
  intro n
  induction n with
  | zero => intro p k l q k' e; rw [rmanyT] at e; cases e; exact vs_nil _ _
  | succ n ih =>
    intro p k l q k' e
    rw [rmanyT] at e
    cases e1 : rnd b m p k with
    | error z => rw [e1] at e; cases e
    | ok t =>
      obtain ⟨x, z, k2⟩ := t
      rw [e1] at e
      simp only at e
      cases e2 : rmanyT (rnd b m) n z k2 with
      | error y => rw [e2] at e; cases e
      | ok t =>
        obtain ⟨l', r, k3⟩ := t
        rw [e2] at e
        cases e
        obtain ⟨-, -, -, a1, a2⟩ := h p k x z k2 e1
        exact vs_cons a1 a2 (ih z k2 l' q k' e2)
theorem flt_ok {t : T} {d k : Nat} (h1 : k ≤ 4096) (h2 : d ≤ 64) (h3 : TPure.alone t = true) : TMay.flt t d k = 0 := by
  unfold TMay.flt
  rw [if_neg (by omega), if_neg (by omega), if_pos h3]
theorem tg_ok {s : ByteArray} (h : s.size ≤ 4096 ∧ UBase.verr s = 0) : TPure.tg s = true := by
  unfold TPure.tg
  simp [h.1, h.2]
theorem alone_of {g : ByteArray} {n : List (ByteArray × ByteArray)} {l : List T} (hg : ¬ g.size = 0) (h : TMeas.ck [.mk g ⟨#[]⟩ n []] = 0) : TPure.alone (.mk g ⟨#[]⟩ n l) = true := by
  have hz : g.toList.isEmpty = false := by
    rw [TPure.list_eq]
    cases hl : g.data.toList with
    | nil => exact absurd (show g.size = 0 by have := congrArg List.length hl; simpa using this) hg
    | cons c r => rfl
  unfold TMeas.ck at h
  rw [vis_cons] at h
  split at h
  · rename_i hf
    have ha := (TVisit.flt_zero hf).2.2
    unfold TPure.alone at ha ⊢
    simp only [T.g, hz, Bool.false_eq_true, if_false, T.s, T.n] at ha ⊢
    exact ha
  · rename_i hf
    exact absurd h hf
theorem nd_back (b : By) : ∀ (m : Nat), m ≤ 64 → ∀ p k t q k', rnd b m p k = .ok (t, q, k') → Nk b m p k t q k' := by
  intro m
  induction m with
  | zero => intro _ p k t q k' h; rw [rnd] at h; cases h
  | succ m ih =>
    intro hm p k t q k' h
    rw [rnd] at h
    split at h
    · cases h
    rename_i hk
    cases e1 : rtxt b p with
    | error z => rw [e1] at h; cases h
    | ok x =>
    obtain ⟨g, z⟩ := x
    rw [e1] at h
    simp only at h
    obtain ⟨a1, a2, X, a3, a4⟩ := bk_txt b p g z e1
    by_cases hg : g.size = 0
    · rw [if_pos hg] at h
      cases e2 : rtxt b z with
      | error y => rw [e2] at h; cases h
      | ok x =>
      obtain ⟨s, r⟩ := x
      rw [e2] at h
      cases h
      obtain ⟨b1, b2, Y, b3, b4⟩ := bk_txt b z s q e2
      have hg' : g = ⟨#[]⟩ := by
        have : g.data = #[] := Array.eq_empty_of_size_eq_zero hg
        cases g; simp at this; rw [this]
      subst hg'
      refine ⟨by omega, b2, ⟨X ++ Y, ?_, by rw [List.flatten_append, a4, b4, seg_cat a1 b1]⟩, flt_ok (by omega) (by omega) ?_, vs_nil _ _⟩
      · rw [YNd.nd_text (t := .mk ⟨#[]⟩ s [] []) rfl]
        show cat (txt ⟨#[]⟩) (txt s) = _
        rw [a3, b3]
        rfl
      · unfold TPure.alone
        rw [if_pos (show (T.mk ⟨#[]⟩ s [] []).g.toList.isEmpty = true by show (⟨#[]⟩ : ByteArray).toList.isEmpty = true; rw [TPure.list_eq]; rfl)]
        show (decide (([] : List (ByteArray × ByteArray)).length = 0) && (decide (([] : List T).length = 0) && TPure.tg s)) = true
        rw [tg_ok (txt_ok b3)]
        rfl
    · rw [if_neg hg] at h
      cases e2 : rlst 4096 (ratt b) b z with
      | error y => rw [e2] at h; cases h
      | ok x =>
      obtain ⟨n, r⟩ := x
      rw [e2] at h
      simp only at h
      obtain ⟨b1, b2, Y, b3, b4⟩ := bk_lst 4096 (bk_att b) z n r e2
      split at h
      · rename_i hck
        cases e3 : rcnt 4096 b r with
        | error y => rw [e3] at h; cases h
        | ok x =>
        obtain ⟨c, r2⟩ := x
        rw [e3] at h
        simp only at h
        cases e4 : rmanyT (rnd b m) c r2 (k + 1) with
        | error y => rw [e4] at h; cases h
        | ok x =>
        obtain ⟨l, r3, k3⟩ := x
        rw [e4] at h
        cases h
        obtain ⟨c1, c2, Z, c3, c4⟩ := bk_cnt b 4096 r c r2 e3
        have c3 : cnt 4096 (c : Int) = some Z := c3
        obtain ⟨d1, d2, d3, U, d4, d5⟩ := bk_manyT (g := nd) (fun p k x q k' h => ⟨(ih (by omega) p k x q k' h).1, (ih (by omega) p k x q k' h).2.1, (ih (by omega) p k x q k' h).2.2.1⟩) c r2 (k + 1) l q k' c2 e4
        have hv := many_vs (ih (by omega)) c r2 (k + 1) l q k' e4
        refine ⟨by omega, d2, ⟨X ++ (Y ++ (Z ++ U)), ?_, ?_⟩, flt_ok (by omega) (by omega) (alone_of hg hck), ?_⟩
        · rw [YNd.nd_elem (t := .mk g ⟨#[]⟩ n l) hg]
          show cat (txt g) (cat (lst 4096 att n) (lst 4096 nd l)) = _
          unfold lst at b3 ⊢
          rw [a3, b3, d3, c3, d4]
          rfl
        · rw [List.flatten_append, List.flatten_append, List.flatten_append, a4, b4, c4, d5, seg_cat c1 d1, seg_cat b1 (by omega), seg_cat a1 (by omega)]
        · show Vs l _ _ _
          rw [show 65 - (m + 1) + 1 = 65 - m by omega]
          exact hv
      · cases h
theorem stt_back (b : By) {p k : Nat} {t : T} {q k' : Nat} (h : (fun p (_ : Nat) => rnd b 64 p 0) p k = .ok (t, q, k')) : p ≤ q ∧ q ≤ b.length ∧ ∃ Xs, stt t = some Xs ∧ Xs.flatten = seg b p q := by
  obtain ⟨a1, a2, ⟨Xs, a3, a4⟩, a5, a6⟩ := nd_back b 64 (by omega) p 0 t q k' h
  have hck : TMeas.ck [t] = 0 := (vs_one a5 a6 0).1
  exact ⟨a1, a2, Xs, by unfold stt; rw [if_pos hck, a3], a4⟩
theorem prg_back {b : By} {x : Pg} {q : Nat} (h : rprg b = .ok (x, q)) : q = b.length ∧ ∃ Xs, prg x = some Xs ∧ Xs.flatten = b := by
  unfold rprg at h
  obtain ⟨v, p1, e1, h⟩ := bnd_ok h
  split at h
  · rename_i hv
    subst hv
    obtain ⟨x1, p2, e2, h⟩ := bnd_ok h
    obtain ⟨x2, p3, e3, h⟩ := bnd_ok h
    cases e4 : rlstT 4096 (fun p _ => rnd b 64 p 0) b p3 0 with
    | error z => rw [e4] at h; cases h
    | ok t =>
    obtain ⟨x3, p4, k4⟩ := t
    rw [e4] at h
    simp only at h
    obtain ⟨x4, p5, e5, h⟩ := bnd_ok h
    split at h
    · cases h
    · rename_i hp
      cases h
      have f1 := bk_oct b _ _ _ e1
      have f2 := bk_lst 16384 (bk_txt b) _ _ _ e2
      have f3 := bk_lst 8192 (bk_lst 8192 (bk_ins b)) _ _ _ e3
      have f5 := bk_lst 8192 (bk_blk b) _ _ _ e5
      have f4 : p3 ≤ p4 ∧ p4 ≤ b.length ∧ ∃ Xs, lst 4096 stt x3 = some Xs ∧ Xs.flatten = seg b p3 p4 := by
        unfold rlstT at e4
        cases e6 : rcnt 4096 b p3 with
        | error z => rw [e6] at e4; cases e4
        | ok t =>
          obtain ⟨c, r⟩ := t
          rw [e6] at e4
          simp only at e4
          obtain ⟨c1, c2, Z, c3, c4⟩ := bk_cnt b 4096 p3 c r e6
          have c3 : cnt 4096 (c : Int) = some Z := c3
          obtain ⟨d1, d2, d3, U, d4, d5⟩ := bk_manyT (f := fun p _ => rnd b 64 p 0) (g := stt) (fun p k x q k' h => stt_back b (k := k) h) c r 0 x3 p4 k4 c2 e4
          refine ⟨by omega, d2, Z ++ U, ?_, by rw [List.flatten_append, c4, d5, seg_cat c1 d1]⟩
          unfold lst
          rw [d3, c3, d4]
          rfl
      obtain ⟨g1, g2, Xs, g3, g4⟩ := cat_seg f1 (cat_seg f2 (cat_seg f3 (cat_seg f4 f5)))
      have hq : q = b.length := by omega
      refine ⟨hq, Xs, g3, ?_⟩
      rw [g4, hq]
      simp [seg]
  · cases h
/-- What is read, written again, is the same bytes. -/
theorem enc_dec {b : By} {x : Pg} (h : dec b = .ok x) : enc x = .ok b := by
  unfold dec at h
  split at h
  · cases h
  · rename_i hl
    cases e : rprg b with
    | error z => rw [e] at h; cases h
    | ok t =>
      obtain ⟨y, q⟩ := t
      rw [e] at h
      cases h
      obtain ⟨-, Xs, h1, h2⟩ := prg_back e
      have hp := pts_flat Xs [] (by rw [List.nil_append, h2]; omega)
      rw [List.nil_append, h2] at hp
      unfold enc
      rw [h1]
      simp only
      rw [hp, if_neg hl]
end Go.Proofs.Ythclndiekjaalaa.YBt

/- What is written is read again: trees, programs. -/
import Derived.Test.YthclndiekjaalaaYDb
namespace Go.Proofs.Ythclndiekjaalaa.YDt
open Go.Proofs.Ythclndiekjaalaa.Leb Go.Proofs.Ythclndiekjaalaa.YPl Go.Proofs.Ythclndiekjaalaa.YRd Go.Proofs.Ythclndiekjaalaa.YBk Go.Proofs.Ythclndiekjaalaa.YBt Go.Proofs.Ythclndiekjaalaa.YDb
open Go.Proofs.Ythclndiekjaalaa.TBase (T)
open Go.Proofs.Ythclndiekjaalaa.TVisit (vis vis_cons vis_nil)
set_option linter.unusedVariables false

theorem vis_head {t : T} {l : List T} {d k e : Nat} (h : (vis (t :: l) d k e).2.2 = 0) : TMay.flt t d (k + 1) = 0 ∧ (vis t.l (d + 1) (k + 1) (max e d)).2.2 = 0 ∧ vis (t :: l) d k e = vis l d (vis t.l (d + 1) (k + 1) (max e d)).1 (vis t.l (d + 1) (k + 1) (max e d)).2.1 := by
  rw [vis_cons] at h ⊢
  split at h
  · rename_i h0
    split at h
    · rename_i h1
      exact ⟨h0, h1, by rw [if_pos h0, if_pos h1]⟩
    · rename_i h1; exact absurd h h1
  · rename_i h0; exact absurd h h0
/-- What is known of a tree that may be: it is read where it stands. -/
def Rd (b : By) (m : Nat) : Prop := ∀ (t : T) (p k e : Nat) (Xs : List By), nd t = some Xs → Sd b p Xs.flatten → TMay.flt t (65 - m) (k + 1) = 0 → (vis t.l (65 - m + 1) (k + 1) e).2.2 = 0 → rnd b m p k = .ok (t, p + Xs.flatten.length, (vis t.l (65 - m + 1) (k + 1) e).1)
theorem rd_list {b : By} {m : Nat} (h : Rd b m) : ∀ (l : List T) (p k e : Nat) (Xs : List By), lis nd l = some Xs → Sd b p Xs.flatten → (vis l (65 - m) k e).2.2 = 0 → rmanyT (rnd b m) l.length p k = .ok (l, p + Xs.flatten.length, (vis l (65 - m) k e).1) := by
  intro l
  induction l with
  | nil => intro p k e Xs h1 _ _; cases h1; rw [vis_nil]; rfl
  | cons t l ih =>
    intro p k e Xs h1 hs hv
    rw [lis] at h1
    obtain ⟨X, Y, g1, g2, rfl⟩ := cat_some h1
    rw [List.flatten_append] at hs ⊢
    obtain ⟨v1, v2, v3⟩ := vis_head hv
    rw [v3] at hv ⊢
    have e1 := h t p k _ X g1 hs.left v1 v2
    have e2 := ih (p + X.flatten.length) _ _ Y g2 hs.right hv
    rw [List.length_cons, rmanyT, e1]
    simp only
    rw [e2]
    simp [Nat.add_assoc]
theorem empty_of {g : ByteArray} (h : g.size = 0) : g = ⟨#[]⟩ := by
  have : g.data = #[] := Array.eq_empty_of_size_eq_zero h
  cases g; simp at this; rw [this]
theorem isEmpty_iff (g : ByteArray) : g.toList.isEmpty = decide (g.size = 0) := by
  rw [TPure.list_eq]
  cases hl : g.data.toList with
  | nil => have : g.size = 0 := by have := congrArg List.length hl; simpa using this
           simp [this]
  | cons c r => have : g.size ≠ 0 := by have := congrArg List.length hl; simp at this; intro h; have h' : g.data.size = 0 := h; omega
                simp [this]
theorem rd_all (b : By) : ∀ m, m ≤ 64 → Rd b m := by
  intro m
  induction m with
  | zero =>
    intro _ t p k e Xs h1 hs hf hv
    have := (TVisit.flt_zero hf).2.1
    omega
  | succ m ih =>
    intro hm t p k e Xs h1 hs hf hv
    obtain ⟨f1, f2, f3⟩ := TVisit.flt_zero hf
    obtain ⟨g, s, n, l⟩ := t
    rw [rnd, if_neg (by omega)]
    by_cases hg : g.size = 0
    · obtain rfl := empty_of hg
      unfold TPure.alone at f3
      simp only [T.g, T.n, T.l, T.s, isEmpty_iff, hg, decide_true, if_true, Bool.and_eq_true] at f3
      obtain ⟨f3, f4, f5⟩ := f3
      obtain rfl := List.eq_nil_of_length_eq_zero (of_decide_eq_true f3)
      obtain rfl := List.eq_nil_of_length_eq_zero (of_decide_eq_true f4)
      rw [YNd.nd_text (t := .mk ⟨#[]⟩ s [] []) rfl] at h1
      obtain ⟨X, Y, g1, g2, rfl⟩ := cat_some h1
      have g1 : txt ⟨#[]⟩ = some X := g1
      have g2 : txt s = some Y := g2
      rw [List.flatten_append] at hs ⊢
      rw [fw_txt b p _ X g1 hs.left]
      simp only
      rw [if_pos hg, fw_txt b _ _ Y g2 hs.right]
      simp only [T.l, vis_nil, List.length_append, Nat.add_assoc]
    · have hz : g.toList.isEmpty = false := by rw [isEmpty_iff]; simp [hg]
      have hal := f3
      unfold TPure.alone at f3
      simp only [T.g, T.n, T.s, hz, Bool.false_eq_true, if_false, Bool.and_eq_true] at f3
      have hs0 : s = ⟨#[]⟩ := empty_of (by have := f3.2.1; rw [isEmpty_iff] at this; simpa using this)
      subst hs0
      rw [YNd.nd_elem (t := .mk g ⟨#[]⟩ n l) hg] at h1
      obtain ⟨X, Y1, g1, h2, rfl⟩ := cat_some h1
      obtain ⟨Y, Z, g2, g3, rfl⟩ := cat_some h2
      unfold lst at g3
      obtain ⟨C, U, g4, g5, rfl⟩ := cat_some g3
      have g1 : txt g = some X := g1
      have g2 : lst 4096 att n = some Y := g2
      have g4 : cnt 4096 (l.length : Int) = some C := g4
      have g5 : lis nd l = some U := g5
      simp only [List.flatten_append] at hs ⊢
      have hck : TMeas.ck [.mk g ⟨#[]⟩ n []] = 0 := by
        have ha : TPure.alone (.mk g ⟨#[]⟩ n []) = true := by
          unfold TPure.alone at hal ⊢
          simp only [T.g, T.n, T.s, hz, Bool.false_eq_true, if_false] at hal ⊢
          exact hal
        exact (vs_one (k := 0) (d := 1) (flt_ok (by omega) (by omega) ha) (vs_nil _ _) 0).1
      have e4 := rd_list (ih (by omega)) l _ (k + 1) e U g5 hs.right.right.right (by rw [show 65 - m = 65 - (m + 1) + 1 by omega]; exact hv)
      rw [fw_txt b p _ X g1 hs.left]
      simp only
      rw [if_neg hg, fw_lst 4096 (by omega) (fun p y Xs _ h hs => fw_att b h hs) g2 hs.right.left]
      simp only
      rw [if_pos hck, (fw_cnt b 4096 (by omega) g4 hs.right.right.left).2]
      simp only
      rw [e4]
      simp only [T.l, List.length_append, Nat.add_assoc]
      rw [show 65 - m = 65 - (m + 1) + 1 by omega]
theorem st_list (b : By) : ∀ (l : List T) (p k : Nat) (Xs : List By), lis stt l = some Xs → Sd b p Xs.flatten → ∃ k', rmanyT (fun p _ => rnd b 64 p 0) l.length p k = .ok (l, p + Xs.flatten.length, k') := by
  intro l
  induction l with
  | nil => intro p k Xs h1 _; cases h1; exact ⟨k, rfl⟩
  | cons t l ih =>
    intro p k Xs h1 hs
    rw [lis] at h1
    obtain ⟨X, Y, g1, g2, rfl⟩ := cat_some h1
    rw [List.flatten_append] at hs ⊢
    unfold stt at g1
    split at g1
    · rename_i hck
      unfold TMeas.ck at hck
      obtain ⟨v1, v2, -⟩ := vis_head hck
      have e1 := rd_all b 64 (by omega) t p 0 _ X g1 hs.left v1 v2
      obtain ⟨k', e2⟩ := ih (p + X.flatten.length) _ Y g2 hs.right
      refine ⟨k', ?_⟩
      rw [List.length_cons, rmanyT]
      rw [e1]
      simp only
      rw [e2]
      simp [Nat.add_assoc]
    · cases g1
/-- The numbers of a program fit. -/
def okP (x : Pg) : Prop := (∀ c ∈ x.c, ∀ i ∈ c, b64 i.2) ∧ ∀ k ∈ x.b, okB k
theorem prg_fw {x : Pg} {Xs : List By} (hx : okP x) (h : prg x = some Xs) : rprg Xs.flatten = .ok (x, Xs.flatten.length) := by
  obtain ⟨b, hb⟩ : ∃ b, Xs.flatten = b := ⟨_, rfl⟩
  have hs : Sd b 0 Xs.flatten := ⟨by rw [hb]; omega, by rw [hb]; simp⟩
  rw [hb]
  unfold prg at h
  obtain ⟨X1, Y1, h1, g1, rfl⟩ := cat_some h
  obtain ⟨X2, Y2, h2, g2, rfl⟩ := cat_some g1
  obtain ⟨X3, Y3, h3, g3, rfl⟩ := cat_some g2
  obtain ⟨X4, X5, h4, h5, rfl⟩ := cat_some g3
  have hl := congrArg List.length hb
  simp only [List.flatten_append] at hs
  simp only [List.flatten_append, List.length_append] at hl
  unfold rprg
  refine fw_bnd (fw_oct b 0 1 X1 h1 hs.left) ?_
  rw [if_pos rfl]
  refine fw_bnd (fw_lst 16384 (by omega) (fun p y Xs _ h hs => fw_txt b p y Xs h hs) h2 hs.right.left) (fw_bnd (fw_lst 8192 (by omega) (fun p y Xs hy h hs => fw_lst 8192 (by omega) (fun p z Xs hz h hs => fw_ins b (hx.1 y hy z hz) h hs) h hs) h3 hs.right.right.left) ?_)
  unfold lst at h4
  obtain ⟨C, U, j1, j2, rfl⟩ := cat_some h4
  simp only [List.flatten_append] at hs hl
  obtain ⟨k', e4⟩ := st_list b x.s _ 0 U j2 hs.right.right.right.left.right
  have e5 : rlstT 4096 (fun p _ => rnd b 64 p 0) b (0 + X1.flatten.length + X2.flatten.length + X3.flatten.length) 0 = .ok (x.s, 0 + X1.flatten.length + X2.flatten.length + X3.flatten.length + C.flatten.length + U.flatten.length, k') := by
    unfold rlstT
    rw [(fw_cnt b 4096 (by omega) j1 hs.right.right.right.left.left).2]
    exact e4
  rw [e5]
  simp only
  have hs5 := hs.right.right.right.right
  rw [List.length_append, ← Nat.add_assoc] at hs5
  refine fw_bnd (fw_lst 8192 (by omega) (fun p y Xs hy h hs => fw_blk b (hx.2 y hy) h hs) h5 hs5) ?_
  rw [List.length_append] at hl
  have e : 0 + X1.flatten.length + X2.flatten.length + X3.flatten.length + C.flatten.length + U.flatten.length + X5.flatten.length = b.length := by omega
  rw [e, if_neg (by omega)]
theorem pts_full : ∀ (Xs : List By) (L : By), 1048576 < L.length → pts L Xs = L := by
  intro Xs
  induction Xs with
  | nil => intro L _; rfl
  | cons X Xs ih =>
    intro L h
    show pts (pt L X) Xs = L
    rw [show pt L X = L by unfold pt; rw [if_pos h]]
    exact ih L h
theorem pts_small : ∀ (Xs : List By) (L : By), (pts L Xs).length ≤ 1048576 → pts L Xs = L ++ Xs.flatten := by
  intro Xs
  induction Xs with
  | nil => intro L _; simp [pts]
  | cons X Xs ih =>
    intro L h
    by_cases hl : 1048576 < L.length
    · rw [pts_full _ _ hl] at h; omega
    · have e : pts L (X :: Xs) = pts (L ++ X) Xs := by show pts (pt L X) Xs = _; rw [show pt L X = L ++ X by unfold pt; rw [if_neg hl]]
      rw [e] at h ⊢
      rw [ih _ h]
      simp
/-- What is written is read again. -/
theorem dec_enc {x : Pg} {b : By} (hx : okP x) (h : enc x = .ok b) : dec b = .ok x := by
  unfold enc at h
  cases e : prg x with
  | none => rw [e] at h; cases h
  | some Xs =>
    rw [e] at h
    simp only at h
    split at h
    · cases h
    · rename_i hl
      cases h
      have hp : pts [] Xs = Xs.flatten := by rw [pts_small Xs [] (by omega)]; rfl
      rw [hp] at hl ⊢
      unfold dec
      rw [if_neg hl, prg_fw hx e]
end Go.Proofs.Ythclndiekjaalaa.YDt

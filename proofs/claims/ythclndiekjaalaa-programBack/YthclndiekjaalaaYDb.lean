/- What is written is read again: plainly. -/
import Derived.Test.YthclndiekjaalaaYBt
namespace Go.Proofs.Ythclndiekjaalaa.YDb
open Go.Proofs.Ythclndiekjaalaa.Leb Go.Proofs.Ythclndiekjaalaa.YPl Go.Proofs.Ythclndiekjaalaa.YRd Go.Proofs.Ythclndiekjaalaa.YBk Go.Proofs.Ythclndiekjaalaa.YBt
open Go.Proofs.Ythclndiekjaalaa.TBase (T)
set_option linter.unusedVariables false

/-- The bytes X stand in b at the place p. -/
def Sd (b : By) (p : Nat) (X : By) : Prop := p + X.length ≤ b.length ∧ (b.drop p).take X.length = X
theorem Sd.left {b : By} {p : Nat} {X Y : By} (h : Sd b p (X ++ Y)) : Sd b p X := by
  obtain ⟨h1, h2⟩ := h
  rw [List.length_append] at h1 h2
  refine ⟨by omega, ?_⟩
  have := congrArg (List.take X.length) h2
  rw [List.take_take, List.take_append_of_le_length (Nat.le_refl _), List.take_length, Nat.min_eq_left (by omega)] at this
  exact this
theorem Sd.right {b : By} {p : Nat} {X Y : By} (h : Sd b p (X ++ Y)) : Sd b (p + X.length) Y := by
  obtain ⟨h1, h2⟩ := h
  rw [List.length_append] at h1 h2
  refine ⟨by omega, ?_⟩
  have := congrArg (List.drop X.length) h2
  rw [List.drop_take, List.drop_drop, List.drop_append_of_le_length (Nat.le_refl _), List.drop_length, List.nil_append, Nat.add_sub_cancel_left] at this
  exact this
/-- What g writes f reads. -/
def Fw {α : Type} (b : By) (f : Nat → Rs α) (g : α → Pc) : Prop := ∀ p x Xs, g x = some Xs → Sd b p Xs.flatten → f p = .ok (x, p + Xs.flatten.length)
theorem tk_of {b : By} {p x : Nat} (hx : x < 18446744073709551616) (h : Sd b p (putL x)) : tk b p = (x, p + (putL x).length, 0) := by
  obtain ⟨h1, h2⟩ := h
  have e : b.drop p = putL x ++ (b.drop p).drop (putL x).length := by
    conv => lhs; rw [← List.take_append_drop (putL x).length (b.drop p)]
    rw [h2]
  have e3 : tk b p = takeGo p (b.drop p) 0 0 := by
    unfold tk
    rw [if_pos ⟨by omega, by omega⟩]
    simp
  rw [e3, e, takeGo_put p _ x x 0 0 (Nat.le_refl _) (by simpa using hx) (.inl rfl)]
  simp
theorem fw_oct (b : By) : Fw b (roct b) oct := by
  intro p x Xs h hs
  unfold oct at h
  split at h
  · rename_i hx
    cases h
    obtain ⟨h1, h2⟩ := hs
    simp only [List.flatten_cons, List.flatten_nil, List.append_nil, List.length_singleton] at h1 h2 ⊢
    have hp : p < b.length := by omega
    rw [List.drop_eq_getElem_cons hp] at h2
    simp only [List.take_succ_cons, List.take_zero, List.cons.injEq, and_true] at h2
    unfold roct
    rw [dif_pos hp, h2, byte_of (by omega)]
    congr 2
    omega
  · cases h
theorem fw_whl (b : By) {x : Int} (h0 : -9223372036854775808 ≤ x) (h1 : x ≤ 9223372036854775807) {p : Nat} {Xs : List By} (h : whl x = some Xs) (hs : Sd b p Xs.flatten) : rwhl b p = .ok (x, p + Xs.flatten.length) := by
  cases h
  simp only [List.flatten_cons, List.flatten_nil, List.append_nil] at hs ⊢
  unfold rwhl
  rw [tk_of (zig_lt h0 h1) hs]
  simp [unz_zig]
theorem fw_cnt (b : By) (lim : Nat) (hl : lim ≤ 16384) {n p : Nat} {Xs : List By} (h : cnt lim (n : Int) = some Xs) (hs : Sd b p Xs.flatten) : n ≤ lim ∧ rcnt lim b p = .ok (n, p + Xs.flatten.length) := by
  unfold cnt at h
  split at h
  · rename_i hx
    cases h
    simp only [Int.toNat_natCast, List.flatten_cons, List.flatten_nil, List.append_nil] at hs ⊢
    have hn : n ≤ lim := by omega
    unfold rcnt
    rw [tk_of (by omega) hs]
    simp [hn]
  · cases h
theorem fw_txt (b : By) : Fw b (rtxt b) txt := by
  intro p s Xs h hs
  unfold txt at h
  split at h
  · rename_i hx
    cases h
    have e : (([putL s.size, s.data.toList] : List By)).flatten = putL s.size ++ s.data.toList := by simp
    rw [e] at hs ⊢
    have h1 := (fw_cnt b 4096 (by omega) (n := s.size) (p := p) (Xs := [putL s.size]) (by unfold cnt; rw [if_pos ⟨by omega, by omega⟩]; simp) (by simpa using hs.left)).2
    obtain ⟨k1, k2⟩ := hs.right
    simp only [List.flatten_cons, List.flatten_nil, List.append_nil] at h1
    have hz : s.data.toList.length = s.size := by simp
    rw [hz] at k1 k2
    have hsub : sub b (p + (putL s.size).length) s.size = s := by
      unfold sub
      rw [k2]
    unfold rtxt
    rw [h1]
    simp only [bnd]
    rw [if_neg (by omega), hsub, if_pos hx.2, List.length_append, hz, Nat.add_assoc]
  · cases h
theorem fw_many {α : Type} {b : By} {f : Nat → Rs α} {g : α → Pc} : ∀ (l : List α) (p : Nat) (Xs : List By), (∀ p x Xs, x ∈ l → g x = some Xs → Sd b p Xs.flatten → f p = .ok (x, p + Xs.flatten.length)) → lis g l = some Xs → Sd b p Xs.flatten → rmany f l.length p = .ok (l, p + Xs.flatten.length) := by
  intro l
  induction l with
  | nil => intro p Xs _ h hs; cases h; rfl
  | cons c l ih =>
    intro p Xs hf h hs
    rw [lis] at h
    obtain ⟨X, Y, h1, h2, rfl⟩ := cat_some h
    rw [List.flatten_append] at hs ⊢
    have e1 := hf p c X (by simp) h1 hs.left
    have e2 := ih (p + X.flatten.length) Y (fun p x Xs hx => hf p x Xs (by simp [hx])) h2 hs.right
    rw [List.length_cons, rmany, e1]
    simp only [bnd]
    rw [e2]
    simp [Nat.add_assoc]
theorem fw_lst {α : Type} {b : By} {f : Nat → Rs α} {g : α → Pc} (lim : Nat) (hl : lim ≤ 16384) {l : List α} {p : Nat} {Xs : List By} (hf : ∀ p x Xs, x ∈ l → g x = some Xs → Sd b p Xs.flatten → f p = .ok (x, p + Xs.flatten.length)) (h : lst lim g l = some Xs) (hs : Sd b p Xs.flatten) : rlst lim f b p = .ok (l, p + Xs.flatten.length) := by
  unfold lst at h
  obtain ⟨X, Y, h1, h2, rfl⟩ := cat_some h
  rw [List.flatten_append] at hs ⊢
  have e1 := (fw_cnt b lim hl h1 hs.left).2
  have e2 := fw_many l (p + X.flatten.length) Y hf h2 hs.right
  unfold rlst
  rw [e1]
  simp only [bnd]
  rw [e2, List.length_append, Nat.add_assoc]
abbrev b64 (x : Int) : Prop := -9223372036854775808 ≤ x ∧ x ≤ 9223372036854775807
theorem fw_bnd {α β : Type} {a : Rs α} {x : α} {q : Nat} {k : α → Nat → Rs β} {r : Rs β} (h1 : a = .ok (x, q)) (h2 : k x q = r) : bnd a k = r := by rw [h1]; exact h2
theorem fw_ins (b : By) {x : Ins} (hx : b64 x.2) {p : Nat} {Xs : List By} (h : ins x = some Xs) (hs : Sd b p Xs.flatten) : rins b p = .ok (x, p + Xs.flatten.length) := by
  unfold ins at h
  obtain ⟨X, Y, h1, h2, rfl⟩ := cat_some h
  rw [List.flatten_append] at hs ⊢
  unfold rins
  refine fw_bnd (fw_oct b p x.1 X h1 hs.left) (fw_bnd (fw_whl b hx.1 hx.2 h2 hs.right) ?_)
  rw [List.length_append, Nat.add_assoc]
theorem fw_att (b : By) {x : ByteArray × ByteArray} {p : Nat} {Xs : List By} (h : att x = some Xs) (hs : Sd b p Xs.flatten) : ratt b p = .ok (x, p + Xs.flatten.length) := by
  unfold att at h
  obtain ⟨X, Y, h1, h2, rfl⟩ := cat_some h
  rw [List.flatten_append] at hs ⊢
  unfold ratt
  refine fw_bnd (fw_txt b p x.1 X h1 hs.left) (fw_bnd (fw_txt b _ x.2 Y h2 hs.right) ?_)
  rw [List.length_append, Nat.add_assoc]
def okO (o : Oq) : Prop := b64 o.a ∧ b64 o.b ∧ b64 o.c ∧ ∀ x ∈ o.l, b64 x
theorem fw_opc (b : By) {x : Oq} (hx : okO x) {p : Nat} {Xs : List By} (h : opc x = some Xs) (hs : Sd b p Xs.flatten) : ropc b p = .ok (x, p + Xs.flatten.length) := by
  unfold opc at h
  obtain ⟨X1, Y1, h1, g1, rfl⟩ := cat_some h
  obtain ⟨X2, Y2, h2, g2, rfl⟩ := cat_some g1
  obtain ⟨X3, Y3, h3, g3, rfl⟩ := cat_some g2
  obtain ⟨X4, X5, h4, h5, rfl⟩ := cat_some g3
  simp only [List.flatten_append] at hs ⊢
  obtain ⟨o1, o2, o3, o4⟩ := hx
  unfold ropc
  refine fw_bnd (fw_oct b p x.k X1 h1 hs.left) (fw_bnd (fw_whl b o1.1 o1.2 h2 hs.right.left) (fw_bnd (fw_whl b o2.1 o2.2 h3 hs.right.right.left) (fw_bnd (fw_whl b o3.1 o3.2 h4 hs.right.right.right.left) (fw_bnd (fw_lst 64 (by omega) (fun p y Xs hy h hs => fw_whl b (o4 y hy).1 (o4 y hy).2 h hs) h5 hs.right.right.right.right) ?_))))
  simp only [List.length_append, Nat.add_assoc]
def okB (x : Bk) : Prop := (∀ o ∈ x.o, okO o) ∧ ∀ u ∈ x.u, b64 u
theorem fw_blk (b : By) {x : Bk} (hx : okB x) {p : Nat} {Xs : List By} (h : blk x = some Xs) (hs : Sd b p Xs.flatten) : rblk b p = .ok (x, p + Xs.flatten.length) := by
  unfold blk at h
  obtain ⟨X1, Y1, h1, g1, rfl⟩ := cat_some h
  obtain ⟨X2, X3, h2, h3, rfl⟩ := cat_some g1
  simp only [List.flatten_append] at hs ⊢
  obtain ⟨n, hn⟩ : ∃ n : Nat, x.d = (n : Int) := by
    unfold cnt at h1
    split at h1
    · rename_i h0; exact ⟨x.d.toNat, by omega⟩
    · cases h1
  rw [hn] at h1
  unfold rblk
  refine fw_bnd (fw_cnt b 64 (by omega) h1 hs.left).2 (fw_bnd (fw_lst 8192 (by omega) (fun p y Xs hy h hs => fw_opc b (hx.1 y hy) h hs) h2 hs.right.left) (fw_bnd (fw_lst 8192 (by omega) (fun p y Xs hy h hs => fw_whl b (hx.2 y hy).1 (hx.2 y hy).2 h hs) h3 hs.right.right) ?_))
  rw [← hn]
  simp only [List.length_append, Nat.add_assoc]
end Go.Proofs.Ythclndiekjaalaa.YDb

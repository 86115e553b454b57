/- What is read stays read where more bytes follow; a fault's place lies in the bytes; what is cut or goes on is refused. -/
import Derived.Test.YthclndiekjaalaaYBt
namespace Go.Proofs.Ythclndiekjaalaa.YEx
open Go.Proofs.Ythclndiekjaalaa.Leb Go.Proofs.Ythclndiekjaalaa.YPl Go.Proofs.Ythclndiekjaalaa.YRd Go.Proofs.Ythclndiekjaalaa.YBk Go.Proofs.Ythclndiekjaalaa.YBt
open Go.Proofs.Ythclndiekjaalaa.TBase (T)
set_option linter.unusedVariables false

/-- What f reads it reads too where R follows. -/
def Ex {α : Type} (f g : Nat → Rs α) : Prop := ∀ p x q, f p = .ok (x, q) → g p = .ok (x, q)
theorem tk_ext {b : By} (R : By) {p : Nat} (h : (tk b p).2.2 = 0) : tk (b ++ R) p = tk b p := by
  obtain ⟨n, h1, h2, h3, h4, h5, -⟩ := tk_back h
  simp only [Int.toNat_natCast] at h3 h4 h5
  have hx := tk_lt b p
  have e1 : tk b p = ((tk b p).1, p + n, 0) := by
    have a : (tk b p).2.1 = p + n := h4
    rw [← a, ← h]
  have hl : (putL (tk b p).1).length = n := by rw [h5, List.length_take, List.length_drop]; omega
  have e2 : (b ++ R).drop p = putL (tk b p).1 ++ ((b.drop p).drop n ++ R) := by
    rw [h5, ← List.append_assoc, List.take_append_drop, List.drop_append_of_le_length (by omega)]
  have e3 : tk (b ++ R) p = takeGo p ((b ++ R).drop p) 0 0 := by
    unfold tk
    rw [if_pos ⟨by omega, by simp; omega⟩]
    simp
  rw [e3, e2, takeGo_put p _ (tk b p).1 (tk b p).1 0 0 (Nat.le_refl _) (by simpa using hx) (.inl rfl), hl, e1]
  simp
theorem ex_oct (b R : By) : Ex (roct b) (roct (b ++ R)) := by
  intro p x q h
  unfold roct at h ⊢
  split at h
  · rename_i hp
    rw [dif_pos (by simp; omega), List.getElem_append_left hp]
    exact h
  · cases h
theorem ex_whl (b R : By) : Ex (rwhl b) (rwhl (b ++ R)) := by
  intro p x q h
  unfold rwhl at h ⊢
  simp only at h ⊢
  split at h
  · rename_i h0
    rw [tk_ext R h0, if_pos h0]
    exact h
  · cases h
theorem ex_cnt (lim : Nat) (b R : By) : Ex (rcnt lim b) (rcnt lim (b ++ R)) := by
  intro p x q h
  unfold rcnt at h ⊢
  simp only at h ⊢
  split at h
  · rename_i h0
    rw [tk_ext R h0.1, if_pos h0]
    exact h
  · cases h
theorem ex_bnd {α β : Type} {f g : Nat → Rs α} {k l : α → Nat → Rs β} (h1 : Ex f g) (h2 : ∀ x q y r, k x q = .ok (y, r) → l x q = .ok (y, r)) : Ex (fun p => bnd (f p) k) (fun p => bnd (g p) l) := by
  intro p y r h
  obtain ⟨x, q, e1, e2⟩ := bnd_ok h
  show bnd (g p) l = _
  rw [h1 p x q e1]
  exact h2 x q y r e2
theorem ex_txt (b R : By) : Ex (rtxt b) (rtxt (b ++ R)) := by
  intro p y r h
  unfold rtxt at h ⊢
  obtain ⟨n, q, e1, h⟩ := bnd_ok h
  rw [ex_cnt 4096 b R p n q e1]
  simp only [bnd]
  split at h
  · cases h
  · rename_i hl
    have e : sub (b ++ R) q n = sub b q n := by
      unfold sub
      rw [List.drop_append_of_le_length (by omega), List.take_append_of_le_length (by rw [List.length_drop]; omega)]
    rw [if_neg (by simp; omega), e]
    exact h
theorem ex_many {α : Type} {f g : Nat → Rs α} (h : Ex f g) : ∀ n, Ex (rmany f n) (rmany g n) := by
  intro n
  induction n with
  | zero => intro p x q e; rw [rmany] at e ⊢; exact e
  | succ n ih =>
    intro p x q e
    rw [rmany] at e ⊢
    exact ex_bnd h (fun x q y r e => ex_bnd ih (fun l z y r e => e) q y r e) p x q e
theorem ex_lst {α : Type} {f g : Nat → Rs α} (lim : Nat) (b R : By) (h : Ex f g) : Ex (rlst lim f b) (rlst lim g (b ++ R)) :=
  ex_bnd (ex_cnt lim b R) (fun n q y r e => ex_many h n q y r e)
theorem ex_ins (b R : By) : Ex (rins b) (rins (b ++ R)) := ex_bnd (ex_oct b R) (fun x q y r e => ex_bnd (ex_whl b R) (fun l z y r e => e) q y r e)
theorem ex_att (b R : By) : Ex (ratt b) (ratt (b ++ R)) := ex_bnd (ex_txt b R) (fun x q y r e => ex_bnd (ex_txt b R) (fun l z y r e => e) q y r e)
theorem ex_opc (b R : By) : Ex (ropc b) (ropc (b ++ R)) :=
  ex_bnd (ex_oct b R) (fun _ q y r e => ex_bnd (ex_whl b R) (fun _ q y r e => ex_bnd (ex_whl b R) (fun _ q y r e => ex_bnd (ex_whl b R) (fun _ q y r e => ex_bnd (ex_lst 64 b R (ex_whl b R)) (fun l z y r e => e) q y r e) q y r e) q y r e) q y r e)
theorem ex_blk (b R : By) : Ex (rblk b) (rblk (b ++ R)) :=
  ex_bnd (ex_cnt 64 b R) (fun _ q y r e => ex_bnd (ex_lst 8192 b R (ex_opc b R)) (fun _ q y r e => ex_bnd (ex_lst 8192 b R (ex_whl b R)) (fun l z y r e => e) q y r e) q y r e)
theorem ex_manyT {f g : Nat → Nat → Rt T} (h : ∀ p k x, f p k = .ok x → g p k = .ok x) : ∀ n p k x, rmanyT f n p k = .ok x → rmanyT g n p k = .ok x := by
  intro n
  induction n with
  | zero => intro p k x e; rw [rmanyT] at e ⊢; exact e
  | succ n ih =>
    intro p k x e
    rw [rmanyT] at e ⊢
    cases e1 : f p k with
    | error z => rw [e1] at e; cases e
    | ok t =>
      obtain ⟨y, z, k2⟩ := t
      rw [e1] at e
      rw [h p k _ e1]
      simp only at e ⊢
      cases e2 : rmanyT f n z k2 with
      | error w => rw [e2] at e; cases e
      | ok t =>
        rw [e2] at e
        rw [ih z k2 _ e2]
        exact e
theorem ex_nd (b R : By) : ∀ m p k x, rnd b m p k = .ok x → rnd (b ++ R) m p k = .ok x := by
  intro m
  induction m with
  | zero => intro p k x h; rw [rnd] at h; cases h
  | succ m ih =>
    intro p k x h
    rw [rnd] at h ⊢
    split at h
    · cases h
    rename_i hk
    rw [if_neg hk]
    cases e1 : rtxt b p with
    | error z => rw [e1] at h; cases h
    | ok t =>
    obtain ⟨g, z⟩ := t
    rw [e1] at h
    rw [ex_txt b R p g z e1]
    simp only at h ⊢
    split at h
    · rename_i hg
      rw [if_pos hg]
      cases e2 : rtxt b z with
      | error y => rw [e2] at h; cases h
      | ok t =>
      obtain ⟨s, r⟩ := t
      rw [e2] at h
      rw [ex_txt b R z s r e2]
      exact h
    · rename_i hg
      rw [if_neg hg]
      cases e2 : rlst 4096 (ratt b) b z with
      | error y => rw [e2] at h; cases h
      | ok t =>
      obtain ⟨n, r⟩ := t
      rw [e2] at h
      rw [ex_lst 4096 b R (ex_att b R) z n r e2]
      simp only at h ⊢
      split at h
      · rename_i hck
        rw [if_pos hck]
        cases e3 : rcnt 4096 b r with
        | error y => rw [e3] at h; cases h
        | ok t =>
        obtain ⟨c, r2⟩ := t
        rw [e3] at h
        rw [ex_cnt 4096 b R r c r2 e3]
        simp only at h ⊢
        cases e4 : rmanyT (rnd b m) c r2 (k + 1) with
        | error y => rw [e4] at h; cases h
        | ok t =>
        rw [e4] at h
        rw [ex_manyT ih c r2 (k + 1) _ e4]
        exact h
      · cases h
/-- All of a program's parts, where more follows: the first byte behind is the fault. -/
theorem prg_more {b R : By} {x : Pg} {q : Nat} (h : rprg b = .ok (x, q)) (hR : R ≠ []) : rprg (b ++ R) = .error q := by
  have hq := (prg_back h).1
  unfold rprg at h ⊢
  obtain ⟨v, p1, e1, h⟩ := bnd_ok h
  rw [ex_oct b R 0 v p1 e1]
  split at h
  · rename_i hv
    obtain ⟨x1, p2, e2, h⟩ := bnd_ok h
    obtain ⟨x2, p3, e3, h⟩ := bnd_ok h
    simp only [bnd]
    rw [if_pos hv, ex_lst 16384 b R (ex_txt b R) p1 x1 p2 e2]
    simp only
    rw [ex_lst 8192 b R (ex_lst 8192 b R (ex_ins b R)) p2 x2 p3 e3]
    simp only
    cases e4 : rlstT 4096 (fun p _ => rnd b 64 p 0) b p3 0 with
    | error z => rw [e4] at h; cases h
    | ok t =>
    obtain ⟨x3, p4, k4⟩ := t
    rw [e4] at h
    simp only at h
    obtain ⟨x4, p5, e5, h⟩ := bnd_ok h
    have e4' : rlstT 4096 (fun p _ => rnd (b ++ R) 64 p 0) (b ++ R) p3 0 = .ok (x3, p4, k4) := by
      unfold rlstT at e4 ⊢
      cases e6 : rcnt 4096 b p3 with
      | error z => rw [e6] at e4; cases e4
      | ok t =>
        obtain ⟨c, r⟩ := t
        rw [e6] at e4
        rw [ex_cnt 4096 b R p3 c r e6]
        exact ex_manyT (fun p k x e => ex_nd b R 64 p 0 x e) c r 0 _ e4
    rw [e4']
    simp only
    rw [ex_lst 8192 b R (ex_blk b R) p4 x4 p5 e5]
    simp only
    split at h
    · cases h
    · cases h
      rw [if_pos (by have : 0 < R.length := List.length_pos_iff.2 hR; simp; omega)]
  · cases h
/-- A fault's place lies in the bytes. -/
def Er {α : Type} (b : By) (f : Nat → Rs α) : Prop := ∀ p, p ≤ b.length → (∀ z, f p = .error z → z ≤ b.length) ∧ ∀ x q, f p = .ok (x, q) → q ≤ b.length
theorem er_of {α : Type} {b : By} {f : Nat → Rs α} {g : α → Pc} (h : Bk b f g) (he : ∀ p z, p ≤ b.length → f p = .error z → z ≤ b.length) : Er b f := fun p hp => ⟨fun z hz => he p z hp hz, fun x q e => (h p x q e).2.1⟩
theorem er_bnd {α β : Type} {b : By} {f : Nat → Rs α} {k : α → Nat → Rs β} (h1 : Er b f) (h2 : ∀ x q, q ≤ b.length → ∀ z, k x q = .error z → z ≤ b.length) : ∀ p z, p ≤ b.length → bnd (f p) k = .error z → z ≤ b.length := by
  intro p z hp h
  cases e : f p with
  | error y => rw [e] at h; cases h; exact (h1 p hp).1 _ e
  | ok t => obtain ⟨x, q⟩ := t; rw [e] at h; exact h2 x q ((h1 p hp).2 x q e) z h
theorem er_oct (b : By) : Er b (roct b) := er_of (bk_oct b) (fun p z hp h => by
  unfold roct at h
  split at h
  · cases h
  · cases h; exact hp)
theorem er_whl (b : By) : Er b (rwhl b) := er_of (bk_whl b) (fun p z hp h => by
  unfold rwhl at h
  simp only at h
  split at h
  · cases h
  · cases h; exact hp)
theorem er_cnt (lim : Nat) (b : By) : Er b (rcnt lim b) := er_of (bk_cnt b lim) (fun p z hp h => by
  unfold rcnt at h
  simp only at h
  split at h
  · cases h
  · cases h; exact hp)
theorem er_txt (b : By) : Er b (rtxt b) := er_of (bk_txt b) (fun p z hp h => by
  unfold rtxt at h
  cases e : rcnt 4096 b p with
  | error y => rw [e] at h; cases h; exact (er_cnt 4096 b p hp).1 _ e
  | ok t =>
    obtain ⟨n, q⟩ := t
    rw [e] at h
    simp only [bnd] at h
    split at h
    · cases h; exact hp
    · split at h
      · cases h
      · cases h; exact hp)
theorem er_many {α : Type} {b : By} {f : Nat → Rs α} (h : Er b f) : ∀ n p z, p ≤ b.length → rmany f n p = .error z → z ≤ b.length := by
  intro n
  induction n with
  | zero => intro p z hp e; rw [rmany] at e; cases e
  | succ n ih =>
    intro p z hp e
    rw [rmany] at e
    exact er_bnd h (fun x q hq z e => by
      cases e2 : rmany f n q with
      | error y => rw [e2] at e; cases e; exact ih q _ hq e2
      | ok t => obtain ⟨l, r⟩ := t; rw [e2] at e; cases e) p z hp e
theorem er_lst {α : Type} {b : By} {f : Nat → Rs α} {g : α → Pc} (lim : Nat) (hb : Bk b f g) (h : Er b f) : Er b (rlst lim f b) := er_of (bk_lst lim hb) (fun p z hp e => er_bnd (er_cnt lim b) (fun n q hq z e => er_many h n q z hq e) p z hp e)
theorem no_err {α : Type} {x : α × Nat} {z : Nat} {P : Prop} (h : (Except.ok x : Rs α) = .error z) : P := by cases h
theorem er_ins (b : By) : Er b (rins b) := er_of (bk_ins b) (fun p z hp e => er_bnd (er_oct b) (fun _ q hq z e => er_bnd (er_whl b) (fun _ _ _ z e => no_err e) q z hq e) p z hp e)
theorem er_att (b : By) : Er b (ratt b) := er_of (bk_att b) (fun p z hp e => er_bnd (er_txt b) (fun _ q hq z e => er_bnd (er_txt b) (fun _ _ _ z e => no_err e) q z hq e) p z hp e)
theorem er_opc (b : By) : Er b (ropc b) := er_of (bk_opc b) (fun p z hp e => er_bnd (er_oct b) (fun _ q hq z e => er_bnd (er_whl b) (fun _ q hq z e => er_bnd (er_whl b) (fun _ q hq z e => er_bnd (er_whl b) (fun _ q hq z e => er_bnd (er_lst 64 (bk_whl b) (er_whl b)) (fun _ _ _ z e => no_err e) q z hq e) q z hq e) q z hq e) q z hq e) p z hp e)
theorem er_blk (b : By) : Er b (rblk b) := er_of (bk_blk b) (fun p z hp e => er_bnd (er_cnt 64 b) (fun _ q hq z e => er_bnd (er_lst 8192 (bk_opc b) (er_opc b)) (fun _ q hq z e => er_bnd (er_lst 8192 (bk_whl b) (er_whl b)) (fun _ _ _ z e => no_err e) q z hq e) q z hq e) p z hp e)
end Go.Proofs.Ythclndiekjaalaa.YEx

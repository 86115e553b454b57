/- The arena as a whole: its cells, its attributes, its free list; what building makes of it. -/
import Derived.Test.YtnpamcgbnimdkaaDNew
import Derived.Test.YtnpamcgbnimdkaaDLink
namespace Go.Proofs.Ytnpamcgbnimdkaa.DArena
open Go.RowKit Go.Proofs.Ytnpamcgbnimdkaa.TBase Go.Proofs.Ytnpamcgbnimdkaa.DBase Go.Proofs.Ytnpamcgbnimdkaa.DJoin Go.Proofs.Ytnpamcgbnimdkaa.DLink Go.Proofs.Ytnpamcgbnimdkaa.DNeed Go.Proofs.Ytnpamcgbnimdkaa.DKids Go.Proofs.Ytnpamcgbnimdkaa.DCell Go.Proofs.Ytnpamcgbnimdkaa.DNew
set_option linter.unusedVariables false

/-- What an arena holds: its cells (their lists of attributes aside), the attributes, the free list (the next one first). -/
structure St where
  mk ::
  (a : Nat → Nd) (A : Nat → List (ByteArray × ByteArray)) (L : List Nat)
def mp (V : Nat → Value) (a : Nat → Nd) : Nat → Nd := fun k => { a k with av := V k }
def pt (V : Nat → Value) (h : Nat) (u : Value) : Nat → Value := fun k => if k = h then u else V k
theorem mp_spa (V : Nat → Value) (a : Nat → Nd) (h : Nat) (b : Option Nat) : up (mp V a) h { mp V a h with pa := b } = mp V (up a h { a h with pa := b }) := by
  funext k
  simp only [mp, up]
  split
  · next e => subst e; rfl
  · rfl
theorem mp_sfi (V : Nat → Value) (a : Nat → Nd) (h : Nat) (b : Option Nat) : up (mp V a) h { mp V a h with fi := b } = mp V (up a h { a h with fi := b }) := by
  funext k
  simp only [mp, up]
  split
  · next e => subst e; rfl
  · rfl
theorem mp_sla (V : Nat → Value) (a : Nat → Nd) (h : Nat) (b : Option Nat) : up (mp V a) h { mp V a h with la := b } = mp V (up a h { a h with la := b }) := by
  funext k
  simp only [mp, up]
  split
  · next e => subst e; rfl
  · rfl
theorem mp_spr (V : Nat → Value) (a : Nat → Nd) (h : Nat) (b : Option Nat) : up (mp V a) h { mp V a h with pr := b } = mp V (up a h { a h with pr := b }) := by
  funext k
  simp only [mp, up]
  split
  · next e => subst e; rfl
  · rfl
theorem mp_sne (V : Nat → Value) (a : Nat → Nd) (h : Nat) (b : Option Nat) : up (mp V a) h { mp V a h with ne := b } = mp V (up a h { a h with ne := b }) := by
  funext k
  simp only [mp, up]
  split
  · next e => subst e; rfl
  · rfl
theorem mp_up (V : Nat → Value) (a : Nat → Nd) (h : Nat) (d : Nd) (u : Value) : up (mp V a) h { d with av := u } = mp (pt V h u) (up a h d) := by
  funext k
  simp only [mp, up, pt]
  split <;> rfl
theorem mp_jn (V : Nat → Value) (a : Nat → Nd) (p : Nat) (x b : Option Nat) : jn (mp V a) p x b = mp V (jn a p x b) := by
  cases x <;> cases b <;> simp only [jn, j1, j2, mp_sfi, mp_sla, mp_spr, mp_sne]
theorem mp_lk (V : Nat → Value) (a : Nat → Nd) (y x : Nat) (b : Option Nat) : lk (mp V a) y x b = mp V (lk a y x b) := by
  have e : lkA (mp V a) y b = lkA a y b := by cases b <;> rfl
  simp only [lk, e, mp_spa, mp_jn]
theorem mp_ul (V : Nat → Value) (a : Nat → Nd) (x : Nat) : ul (mp V a) x = mp V (ul a x) := by
  unfold ul
  show (match (a x).pa with | none => mp V a | some p => jn (mp V a) p (a x).pr (a x).ne) = _
  cases (a x).pa with
  | none => rfl
  | some p => exact mp_jn _ _ _ _ _
theorem jn_la (c : Nat → Nd) (p : Nat) (a b : Option Nat) (k : Nat) : (jn c p a b k).la = if b = none ∧ k = p then a else (c k).la := by
  cases a <;> cases b <;> simp only [jn, j1, j2, up] <;> (repeat' split) <;> simp_all
theorem lk_la (a : Nat → Nd) (y x k : Nat) : (lk a y x none k).la = if k = y then some x else (a k).la := by
  rw [lk, jn_la, jn_la]
  simp only [up]
  by_cases h : k = y <;> by_cases h2 : k = x <;> simp [h, h2]

/-- Only the box and the row of an arena have changed. -/
structure Kp (p gc : Nat) (w w' : World) : Prop where
  os : w'.os = w.os
  tape : w'.tape = w.tape
  output : w'.output = w.output
  size : w.heap.size ≤ w'.heap.size
  block : ∀ k, k < w.heap.size → k ≠ p → k ≠ gc → w'.heap[k]? = w.heap[k]?
def Nt (p gc : Nat) : Nat → Prop := fun b => b ≠ p ∧ b ≠ gc
theorem Kp.refl (p gc : Nat) (w : World) : Kp p gc w w := ⟨rfl, rfl, rfl, Nat.le_refl _, fun _ _ _ _ => rfl⟩
theorem Kp.trans {p gc : Nat} {a b c : World} (h : Kp p gc a b) (k : Kp p gc b c) : Kp p gc a c :=
  ⟨k.os.trans h.os, k.tape.trans h.tape, k.output.trans h.output, Nat.le_trans h.size k.size, fun i hi h1 h2 => (k.block i (Nat.lt_of_lt_of_le hi h.size) h1 h2).trans (h.block i hi h1 h2)⟩
theorem Kp.of_below {p gc : Nat} {a b : World} (h : Below a.heap.size a b) : Kp p gc a b := ⟨h.os, h.tape, h.output, h.size, fun k hk _ _ => h.block k hk⟩
theorem Kp.of_grown {p gc : Nat} {a b : World} (h : a.grownBy b (some gc)) : Kp p gc a b := ⟨h.os, h.tape, h.output, h.size, fun k hk _ h2 => h.block k hk (fun e => h2 (Option.some.inj e))⟩
theorem Kp.of_grownP {p gc : Nat} {a b : World} (h : a.grownBy b (some p)) : Kp p gc a b := ⟨h.os, h.tape, h.output, h.size, fun k hk h2 _ => h.block k hk (fun e => h2 (Option.some.inj e))⟩
theorem Kp.below {p gc B : Nat} {w0 w w' : World} (h : Kp p gc w w') (hb : Below B w0 w) (hB : B ≤ w.heap.size) (h1 : B ≤ p) (h2 : B ≤ gc) : Below B w0 w' :=
  ⟨h.os.trans hb.os, h.tape.trans hb.tape, h.output.trans hb.output, Nat.le_trans hb.size h.size, fun k hk => (h.block k (by omega) (by omega) (by omega)).trans (hb.block k hk)⟩
theorem Kp.keep {p gc : Nat} {w w' : World} (h : Kp p gc w w') : Keep (Nt p gc) w w' := fun b hb hlt => h.block b hlt hb.1 hb.2
theorem oi_kp {p gc n B : Nat} {w w' : World} {fv v : Value} {q : Nat → Int} {c : Nat → Nd} {L : List Int} (hb : Bx w p gc n fv q) (hc : Cr w gc n c) (h : Oi w B v L) (hk : Kp p gc w w') : Oi w' B v L := by
  have n1 := box_ne hb h
  have n2 := row_ne hc h
  refine ⟨h.1, ?_⟩
  rcases h.2 with h2 | ⟨g, cap, cur, rfl, h2, h3, h4⟩
  · exact .inl h2
  · exact .inr ⟨g, cap, cur, rfl, h2, (hk.block g (Array.getElem?_eq_some_iff.1 h3).1 (fun e => n1 (by rw [e]; rfl)) (fun e => n2 (by rw [e]; rfl))).trans h3, h4⟩
theorem ownA_kp {p gc n B : Nat} {w w' : World} {fv v : Value} {q : Nat → Int} {c : Nat → Nd} {L : List (ByteArray × ByteArray)} (hb : Bx w p gc n fv q) (hc : Cr w gc n c) (h : OwnA w B v L) (hk : Kp p gc w w') : OwnA w' B v L := by
  refine ⟨h.1, ?_⟩
  rcases h.2 with h2 | ⟨g, cap, cur, rfl, h2, h3, h4⟩
  · exact .inl h2
  · refine .inr ⟨g, cap, cur, rfl, h2, (hk.block g (Array.getElem?_eq_some_iff.1 h3).1 (fun e => ?_) (fun e => ?_)).trans h3, h4⟩
    · subst e
      unfold Bx at hb
      rw [hb] at h3
      simp at h3
    · subst e
      obtain ⟨arr, h1, -⟩ := hc
      rw [h1] at h3
      simp at h3
theorem ownA_mono {w : World} {B B' : Nat} {v : Value} {L : List (ByteArray × ByteArray)} (h : OwnA w B' v L) (hB : B ≤ B') : OwnA w B v L := by
  refine ⟨h.1, ?_⟩
  rcases h.2 with h2 | ⟨g, cap, cur, h1, h2, h3⟩
  · exact .inl h2
  · exact .inr ⟨g, cap, cur, h1, Nat.le_trans hB h2, h3⟩
/-- An arena in memory. -/
structure Ar (w : World) (B p gc n : Nat) (q : Nat → Int) (s : St) (fv : Value) (V : Nat → Value) : Prop where
  bx : Bx w p gc n fv q
  cr : Cr w gc n (mp V s.a)
  fr : Oi w B fv (hl s.L.reverse)
  ats : ∀ k, k < n → OwnA w B (V k) (s.A k)
  ds : ∀ j k, j < n → k < n → j ≠ k → ∀ b, (V j).ownBlock = some b → (V k).ownBlock ≠ some b
  lp : B ≤ p
  lg : B ≤ gc
  hn : n ≤ 8192
  hh : ∀ h, h ∈ s.L → h < n
  la : ∀ k, Ok n (s.a k).la
theorem Ar.below {w w' : World} {B p gc n : Nat} {q : Nat → Int} {s : St} {fv : Value} {V : Nat → Value} (h : Ar w B p gc n q s fv V) (hb : Below w.heap.size w w') : Ar w' B p gc n q s fv V :=
  ⟨h.bx.keep (hb.block p h.bx.lt), h.cr.keep (hb.block gc h.cr.lt), h.fr.below hb, fun k hk => ownA_kp h.bx h.cr (h.ats k hk) (.of_below hb), h.ds, h.lp, h.lg, h.hn, h.hh, h.la⟩
/-- A kid linked. -/
theorem Ar.link {w w' : World} {B p gc n : Nat} {q : Nat → Int} {s : St} {fv : Value} {V : Nat → Value} (h : Ar w B p gc n q s fv V) {y x : Nat} (hx : x < n) (hc : Cr w' gc n (lk (mp V s.a) y x none)) (hg : w.grownBy w' (some gc)) : Ar w' B p gc n q ⟨lk s.a y x none, s.A, s.L⟩ fv V := by
  have hne := ne_of h.bx h.cr
  refine ⟨Bx.grown h.bx hne hg, by rw [← mp_lk]; exact hc, oi_kp h.bx h.cr h.fr (.of_grown hg), fun k hk => ownA_kp h.bx h.cr (h.ats k hk) (.of_grown hg), h.ds, h.lp, h.lg, h.hn, h.hh, fun k => ?_⟩
  show Ok n (lk s.a y x none k).la
  rw [lk_la]
  split
  · exact fun j e => by cases e; exact hx
  · exact h.la k

/-- How many nodes. -/
def nds : List T → Nat
  | [] => 0
  | .mk _ _ _ l :: r => 1 + nds l + nds r
/-- A new node's cell. -/
def freshN (t : T) : Nd := ⟨true, t.g, t.s, .bool false, none, none, none, none, none⟩
/-- A handle taken for a tree's topmost node. -/
def tk (s : St) (t : T) : St := ⟨up s.a (s.L.headD 0) (freshN t), fun k => if k = s.L.headD 0 then t.n else s.A k, s.L.tail⟩
/-- Trees built as kids of y, one behind the other. -/
def bldL : List T → Nat → St → St
  | [], _, s => s
  | .mk g x n l :: r, y, s => bldL r y ⟨lk (bldL l (s.L.headD 0) (tk s (.mk g x n l))).a y (s.L.headD 0) none, (bldL l (s.L.headD 0) (tk s (.mk g x n l))).A, (bldL l (s.L.headD 0) (tk s (.mk g x n l))).L⟩
def bld (t : T) (s : St) : St := bldL t.l (s.L.headD 0) (tk s t)
def kid (y : Nat) (t : T) (s : St) : St := ⟨lk (bld t s).a y (s.L.headD 0) none, (bld t s).A, (bld t s).L⟩
theorem bldL_nil (y : Nat) (s : St) : bldL [] y s = s := by rw [bldL]
theorem bldL_cons (t : T) (r : List T) (y : Nat) (s : St) : bldL (t :: r) y s = bldL r y (kid y t s) := by
  cases t
  rw [bldL]
  rfl
theorem bldL_snoc (t : T) (y : Nat) : ∀ (l : List T) (s : St), bldL (l ++ [t]) y s = kid y t (bldL l y s)
  | [], s => by rw [List.nil_append, bldL_cons, bldL_nil, bldL_nil]
  | c :: r, s => by rw [List.cons_append, bldL_cons, bldL_cons, bldL_snoc t y r]
theorem nds_cons (t : T) (r : List T) : nds (t :: r) = 1 + nds t.l + nds r := by
  cases t
  rw [nds]
  rfl
theorem nds_append : ∀ (l r : List T), nds (l ++ r) = nds l + nds r
  | [], r => by rw [List.nil_append, nds, Nat.zero_add]
  | c :: l, r => by rw [List.cons_append, nds_cons, nds_cons, nds_append l r]; omega
theorem bldL_L : ∀ (l : List T) (y : Nat) (s : St), (bldL l y s).L = s.L.drop (nds l)
  | [], y, s => by rw [bldL_nil, nds, List.drop_zero]
  | .mk g x n l :: r, y, s => by
    rw [bldL, bldL_L r, bldL_L l, nds]
    show ((s.L.tail).drop (nds l)).drop (nds r) = _
    rw [← List.drop_one, List.drop_drop, List.drop_drop, Nat.add_assoc]
theorem bld_L (t : T) (s : St) : (bld t s).L = s.L.drop (1 + nds t.l) := by
  rw [bld, bldL_L]
  show s.L.tail.drop _ = _
  rw [← List.drop_one, List.drop_drop]
/-- A handle taken: its cell written, the free list shortened. -/
theorem Ar.cell {w w' : World} {B p gc n : Nat} {q : Nat → Int} {s : St} {fv : Value} {V : Nat → Value} (h : Ar w B p gc n q s fv V) {x : Nat} (hx : x < n) (d : Nd) (hd : Ok n d.la) (u : Value) (N : List (ByteArray × ByteArray)) (hu : OwnA w B u N) (hnew : ∀ k, k < n → ∀ b, u.ownBlock = some b → (V k).ownBlock ≠ some b) (hc : Cr w' gc n (up (mp V s.a) x { d with av := u })) (hg : w.grownBy w' (some gc)) :
    Ar w' B p gc n q ⟨up s.a x d, fun k => if k = x then N else s.A k, s.L⟩ fv (pt V x u) := by
  have hne := ne_of h.bx h.cr
  have kp : Kp p gc w w' := .of_grown hg
  refine ⟨Bx.grown h.bx hne hg, by rw [← mp_up]; exact hc, oi_kp h.bx h.cr h.fr kp, fun k hk => ?_, fun j k hj hk hjk b hb => ?_, h.lp, h.lg, h.hn, h.hh, fun k => ?_⟩
  · show OwnA w' B (pt V x u k) (if k = x then N else s.A k)
    unfold pt
    split
    · exact ownA_kp h.bx h.cr hu kp
    · exact ownA_kp h.bx h.cr (h.ats k hk) kp
  · unfold pt at hb ⊢
    by_cases e1 : j = x
    · rw [if_pos e1] at hb
      rw [if_neg (fun e => hjk (e1.trans e.symm))]
      exact hnew k hk b hb
    · rw [if_neg e1] at hb
      by_cases e2 : k = x
      · rw [if_pos e2]
        exact fun e => hnew j hj b e hb
      · rw [if_neg e2]
        exact h.ds j k hj hk hjk b hb
  · show Ok n (up s.a x d k).la
    unfold up
    split
    · exact hd
    · exact h.la k
theorem hl_len (L : List Nat) : (hl L).length = L.length := by simp [hl]
/-- The free list's last one let go. -/
theorem oi_pop {w : World} {B : Nat} {a : Option Addr} {k cap : Nat} {L : List Int} {x : Int} (h : Oi w B (.slice a k cap) (L ++ [x])) : Oi w B (.slice a L.length cap) L ∧ k = L.length + 1 ∧ ∃ g, a = some ⟨g, 0, none⟩ ∧ w.cell? ⟨g, 0 + L.length, none⟩ = some (.int .i64 x) ∧ k ≤ cap ∧ cap ≤ maxLen := by
  obtain ⟨a2, c2, e, h1, h2, h3⟩ := h.hs
  rcases h.2 with ⟨e1, e2⟩ | ⟨g, cap', cur, e1, q2, q3, q4, q5, q6, q7⟩
  · simp at e2
  · cases e1
    rw [List.length_append, List.length_singleton] at *
    refine ⟨⟨by simp, .inr ⟨g, cap, cur, rfl, q2, q3, by omega, q5, q6, ?_⟩⟩, rfl, g, rfl, ?_, q4, q5⟩
    · rw [Nat.mul_one] at q7 ⊢
      have := congrArg (List.take L.length) q7
      rw [List.take_take, Nat.min_eq_left (by omega), List.map_append, List.take_append_of_le_length (by simp)] at this
      rw [this]
      exact List.take_of_length_le (by simp)
    · rcases h3 with h3 | ⟨g', o', e3, h3⟩
      · simp at h3
      · cases e
        cases e3
        have := h3 L.length (by simp)
        simpa using this
/-- The free list shortened. -/
theorem Ar.pop {w : World} {B p gc n : Nat} {q : Nat → Int} {a : Nat → Nd} {A : Nat → List (ByteArray × ByteArray)} {L : List Nat} {fv fu : Value} {V : Nat → Value} (h : Ar w B p gc n q ⟨a, A, L⟩ fv V) {L' : List Nat} (hL : ∀ x, x ∈ L' → x < n) (hf : Oi w B fu (hl L'.reverse)) : Ar (w.setCell ⟨p, 1, none⟩ fu) B p gc n q ⟨a, A, L'⟩ fu V := by
  have hne := ne_of h.bx h.cr
  have kp : Kp p gc w (w.setCell ⟨p, 1, none⟩ fu) := .of_grownP (grown_set (World.grownBy.refl _ _) _ _)
  exact ⟨Bx.free h.bx fu, h.cr.keep (Below.heap_setCell _ _ _ _ (fun e => hne e.symm)), oi_kp h.bx h.cr hf kp, fun k hk => ownA_kp h.bx h.cr (h.ats k hk) kp, h.ds, h.lp, h.lg, h.hn, hL, h.la⟩
end Go.Proofs.Ytnpamcgbnimdkaa.DArena

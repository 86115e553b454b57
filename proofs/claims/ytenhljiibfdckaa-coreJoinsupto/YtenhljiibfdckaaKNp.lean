/- Which cores may be: plain; enter and arePlaced at every node. -/
import Derived.Test.YtenhljiibfdckaaKEn
import Derived.Test.YtenhljiibfdckaaKRs
import Derived.Test.YtenhljiibfdckaaKPd
namespace Go.Proofs.Ytenhljiibfdckaa.KNp
open Go.RowKit Go.Proofs.Ytenhljiibfdckaa.Base Go.Proofs.Ytenhljiibfdckaa.EPure Go.Proofs.Ytenhljiibfdckaa.KBase Go.Proofs.Ytenhljiibfdckaa.KSh Go.Proofs.Ytenhljiibfdckaa.KAr Go.Proofs.Ytenhljiibfdckaa.KEx Go.Proofs.Ytenhljiibfdckaa.KLe
set_option linter.unusedVariables false

/-- The kind of the first kid. -/
def kk (c : Co) : Int := match c.l with
  | [] => 0
  | x :: _ => x.k
theorem kk_eq (c : Co) (h : 0 < c.l.length) : kk c = c.l[0].k := by
  obtain ⟨k, t, f, p, x, l, u⟩ := c
  cases l with
  | nil => simp [Co.l] at h
  | cons x t => rfl
/-- What lies around the kids of a node, and whether it may be but for its expressions and kids. -/
def ent (c : Co) (s e l : Int) : (Int × Int × Int) × Bool :=
  if c.k = 1 then ((s, e, l), KRo.prOk c.p && bare c.t c.f.length 0 c.x.length c.l.length c.u.length)
  else if c.k = 2 then ((s, e + 1, l), (UBase.word c.t 45 && KFd.fl1 none c.f) && bare ⟨#[]⟩ 0 c.p.length c.x.length 0 c.u.length)
  else if c.k = 3 then ((s, e, l), ((c.x.length : Int) == 1) && bare c.t c.f.length c.p.length 0 0 0)
  else if c.k = 4 then ((s + 2, e, l + 1), (((c.x.length : Int) == 2) && (((c.l.length : Int) == 1) && (kk c == 2))) && bare c.t c.f.length c.p.length 0 0 c.u.length)
  else if c.k = 5 then ((s + c.x.length, e, l), bare c.t c.f.length c.p.length 0 0 c.u.length)
  else ((s, e, l), false)
theorem enter_c {m : Nat} {v : Value} {c : Co} {w : World} (hin : In false (fun _ => True) w m v c) {s e l : Int} (hs : 0 ≤ s ∧ s ≤ 100000) (he : 0 ≤ e ∧ e ≤ 100000) (hl : 0 ≤ l ∧ l ≤ 100000) :
    Calls Try.prog 33 #[av s e l, v] w fun x w' => x = .returned (.tuple #[av (ent c s e l).1.1 (ent c s e l).1.2.1 (ent c s e l).1.2.2, .bool (ent c s e l).2]) ∧ Below w.heap.size w w' := by
  obtain ⟨m', fv, pv, xv, lv, uv, rfl, rfl, -, ht, hF, hP, ⟨mx, hX⟩, hL, hU⟩ := hin.shape
  have hF0 := hF
  have hP0 := hP
  have hL0 := hL
  obtain ⟨a1, c1, rfl, hc1, hm1, hl1, -, hLF⟩ := hF
  obtain ⟨a2, c2, rfl, hc2, hm2, hl2, -, hLP⟩ := hP
  obtain ⟨a3, c3, rfl, hc3, hm3, hl3, -, hLX⟩ := hX
  obtain ⟨a4, c4, rfl, hc4, hm4, hl4, -, hLL⟩ := hL
  obtain ⟨a5, c5, rfl, hc5, hm5, hl5, -, hLU⟩ := hU
  obtain ⟨k, hk⟩ : ∃ k, c.k = k := ⟨_, rfl⟩
  rw [hk]
  by_cases h1 : k = 1
  · subst h1
    have e0 : ent c s e l = ((s, e, l), KRo.prOk c.p && bare c.t c.f.length 0 c.x.length c.l.length c.u.length) := by unfold ent; rw [if_pos hk]
    rw [e0]
    exact KEn.enter_text (fun W hW => KAk.text_c (RP.keep (Keep.of_below hW) hP0))
  by_cases h2 : k = 2
  · subst h2
    have e0 : ent c s e l = ((s, e + 1, l), (UBase.word c.t 45 && KFd.fl1 none c.f) && bare ⟨#[]⟩ 0 c.p.length c.x.length 0 c.u.length) := by unfold ent; rw [if_neg (by rw [hk]; omega), if_pos hk]
    rw [e0]
    exact KEn.enter_element (fun W hW => KAk.element_c (RF.keep (Keep.of_below hW) hF0) he ht)
  by_cases h3 : k = 3
  · subst h3
    have e0 : ent c s e l = ((s, e, l), ((c.x.length : Int) == 1) && bare c.t c.f.length c.p.length 0 0 0) := by unfold ent; rw [if_neg (by rw [hk]; omega), if_neg (by rw [hk]; omega), if_pos hk]
    rw [e0]
    exact KEn.enter_condition (fun W hW => KAk.condition_c)
  by_cases h4 : k = 4
  · subst h4
    have e0 : ent c s e l = ((s + 2, e, l + 1), (((c.x.length : Int) == 2) && (((c.l.length : Int) == 1) && (kk c == 2))) && bare c.t c.f.length c.p.length 0 0 c.u.length) := by unfold ent; rw [if_neg (by rw [hk]; omega), if_neg (by rw [hk]; omega), if_neg (by rw [hk]; omega), if_pos hk]
    rw [e0]
    refine KEn.enter_loop (fun W hW => KAk.loop_c (kk := kk c) (fun h1 => ?_) hs hl hc4)
    obtain ⟨g, o, u, ha, -, hu, hi⟩ := hLL.elem (q := 0) (by omega)
    refine ⟨g, o, ha, ?_⟩
    obtain ⟨v0, v1, v2, v3, v4, v5, v6, rfl, k0, -⟩ := hu
    obtain ⟨m2, _, _, _, _, _, -, hv, -⟩ := hi.shape
    simp only [Value.agg.injEq, Array.mk.injEq, List.cons.injEq, and_true] at hv
    obtain ⟨rfl, -⟩ := hv
    rw [kk_eq c (by omega)]
    rw [Nat.zero_mul, Nat.add_zero] at k0
    exact below_cell k0 hW
  by_cases h5 : k = 5
  · subst h5
    have e0 : ent c s e l = ((s + c.x.length, e, l), bare c.t c.f.length c.p.length 0 0 c.u.length) := by unfold ent; rw [if_neg (by rw [hk]; omega), if_neg (by rw [hk]; omega), if_neg (by rw [hk]; omega), if_neg (by rw [hk]; omega), if_pos hk]
    rw [e0]
    exact KEn.enter_with (fun W hW => KAk.with_c hs (by omega))
  · have e0 : ent c s e l = ((s, e, l), false) := by unfold ent; rw [if_neg (by rw [hk]; omega), if_neg (by rw [hk]; omega), if_neg (by rw [hk]; omega), if_neg (by rw [hk]; omega), if_neg (by rw [hk]; omega)]
    rw [e0]
    by_cases h0 : k < 1
    · exact KEn.enter_low h0
    · exact KEn.enter_high (by omega)
theorem ent_bd (c : Co) {s e l : Int} (hs : 0 ≤ s ∧ s ≤ 100000) (he : 0 ≤ e ∧ e ≤ 100000) (hl : 0 ≤ l ∧ l ≤ 100000) : 0 ≤ (ent c s e l).1.1 ∧ 0 ≤ (ent c s e l).1.2.1 ∧ 0 ≤ (ent c s e l).1.2.2 := by
  unfold ent
  repeat' split
  all_goals (dsimp only; omega)
/-- Do its expressions ask places of the stack alone? -/
def plc (c : Co) (so si : Int) : Bool :=
  if c.k = 4 then (match c.x with
    | [x, y] => KHs.hs so [x] && KHs.hs si [y]
    | _ => false)
  else (xsC c).all (fun x => KHs.hs so [x])
theorem placed_c {m : Nat} {v : Value} {c : Co} {w : World} (hin : In false (fun _ => True) w m v c) {so eo lo si ei li : Int} (h2 : c.k = 4 → c.x.length = 2) :
    Calls Try.prog 36 #[v, av so eo lo, av si ei li] w fun e w' => e = .returned (.bool (plc c so si)) ∧ Below w.heap.size w w' := by
  by_cases hk : c.k = 4
  · obtain ⟨x, y, hx⟩ : ∃ x y, c.x = [x, y] := by
      have := h2 hk
      match hc : c.x with
      | [] => rw [hc] at this; simp at this
      | [a] => rw [hc] at this; simp at this
      | [a, b] => exact ⟨a, b, rfl⟩
      | a :: b :: d :: t => rw [hc] at this; simp at this
    have e0 : plc c so si = (KHs.hs so [x] && KHs.hs si [y]) := by unfold plc; rw [if_pos hk, hx]
    rw [e0]
    exact KPd.placed_for hin hk hx
  · have e0 : plc c so si = (xsC c).all (fun x => KHs.hs so [x]) := by unfold plc; rw [if_neg hk]
    rw [e0]
    exact KPc.placed_range hin hk
/-- What a node is told by itself, the room behind it being r. -/
def own (c : Co) (r s e l : Int) : Int :=
  if r < 0 then 1504
  else if deep (ent c s e l).1.1 (ent c s e l).1.2.1 (ent c s e l).1.2.2 = true then 1503
  else if (ent c s e l).2 = false then 1500
  else if (xsC c).all rsv = false then 1501
  else if plc c s (ent c s e l).1.1 = false then 1502
  else 0
/-- The room left behind nodes, and the first fault. -/
def ndL : List Co → Int → Int → Int → Int → Int × Int
  | [], r, _, _, _ => (r, 0)
  | .mk k t f p x l u :: cs, r, s, e, lo =>
    if own (.mk k t f p x l u) (lft (.mk k t f p x l u) r) s e lo ≠ 0 then (lft (.mk k t f p x l u) r, own (.mk k t f p x l u) (lft (.mk k t f p x l u) r) s e lo)
    else if (ndL l (lft (.mk k t f p x l u) r) (ent (.mk k t f p x l u) s e lo).1.1 (ent (.mk k t f p x l u) s e lo).1.2.1 (ent (.mk k t f p x l u) s e lo).1.2.2).2 ≠ 0 then ndL l (lft (.mk k t f p x l u) r) (ent (.mk k t f p x l u) s e lo).1.1 (ent (.mk k t f p x l u) s e lo).1.2.1 (ent (.mk k t f p x l u) s e lo).1.2.2
    else if (ndL u (ndL l (lft (.mk k t f p x l u) r) (ent (.mk k t f p x l u) s e lo).1.1 (ent (.mk k t f p x l u) s e lo).1.2.1 (ent (.mk k t f p x l u) s e lo).1.2.2).1 (ent (.mk k t f p x l u) s e lo).1.1 (ent (.mk k t f p x l u) s e lo).1.2.1 (ent (.mk k t f p x l u) s e lo).1.2.2).2 ≠ 0 then ndL u (ndL l (lft (.mk k t f p x l u) r) (ent (.mk k t f p x l u) s e lo).1.1 (ent (.mk k t f p x l u) s e lo).1.2.1 (ent (.mk k t f p x l u) s e lo).1.2.2).1 (ent (.mk k t f p x l u) s e lo).1.1 (ent (.mk k t f p x l u) s e lo).1.2.1 (ent (.mk k t f p x l u) s e lo).1.2.2
    else ndL cs (ndL u (ndL l (lft (.mk k t f p x l u) r) (ent (.mk k t f p x l u) s e lo).1.1 (ent (.mk k t f p x l u) s e lo).1.2.1 (ent (.mk k t f p x l u) s e lo).1.2.2).1 (ent (.mk k t f p x l u) s e lo).1.1 (ent (.mk k t f p x l u) s e lo).1.2.1 (ent (.mk k t f p x l u) s e lo).1.2.2).1 s e lo
theorem ndL_nil (r s e l : Int) : ndL [] r s e l = (r, 0) := by rw [ndL]
theorem ndL_one' (k : Int) (t : ByteArray) (f : List Fld) (p : List Pt) (x : List Ex) (l' u : List Co) (r s e l : Int) : ndL [(.mk k t f p x l' u)] r s e l =
    (if own (.mk k t f p x l' u) (lft (.mk k t f p x l' u) r) s e l ≠ 0 then (lft (.mk k t f p x l' u) r, own (.mk k t f p x l' u) (lft (.mk k t f p x l' u) r) s e l)
    else if (ndL l' (lft (.mk k t f p x l' u) r) (ent (.mk k t f p x l' u) s e l).1.1 (ent (.mk k t f p x l' u) s e l).1.2.1 (ent (.mk k t f p x l' u) s e l).1.2.2).2 ≠ 0 then ndL l' (lft (.mk k t f p x l' u) r) (ent (.mk k t f p x l' u) s e l).1.1 (ent (.mk k t f p x l' u) s e l).1.2.1 (ent (.mk k t f p x l' u) s e l).1.2.2
    else ndL u (ndL l' (lft (.mk k t f p x l' u) r) (ent (.mk k t f p x l' u) s e l).1.1 (ent (.mk k t f p x l' u) s e l).1.2.1 (ent (.mk k t f p x l' u) s e l).1.2.2).1 (ent (.mk k t f p x l' u) s e l).1.1 (ent (.mk k t f p x l' u) s e l).1.2.1 (ent (.mk k t f p x l' u) s e l).1.2.2) := by
  rw [ndL, ndL_nil]
  by_cases h1 : own (.mk k t f p x l' u) (lft (.mk k t f p x l' u) r) s e l ≠ 0
  · rw [if_pos h1, if_pos h1]
  · rw [if_neg h1, if_neg h1]
    by_cases h2 : (ndL l' (lft (.mk k t f p x l' u) r) (ent (.mk k t f p x l' u) s e l).1.1 (ent (.mk k t f p x l' u) s e l).1.2.1 (ent (.mk k t f p x l' u) s e l).1.2.2).2 ≠ 0
    · rw [if_pos h2, if_pos h2]
    · rw [if_neg h2, if_neg h2]
      split
      · rfl
      · next h =>
        have h' := Decidable.not_not.1 h
        exact Prod.ext rfl h'.symm
theorem ndL_one (c : Co) (r s e l : Int) : ndL [c] r s e l =
    (if own c (lft c r) s e l ≠ 0 then (lft c r, own c (lft c r) s e l)
    else if (ndL c.l (lft c r) (ent c s e l).1.1 (ent c s e l).1.2.1 (ent c s e l).1.2.2).2 ≠ 0 then ndL c.l (lft c r) (ent c s e l).1.1 (ent c s e l).1.2.1 (ent c s e l).1.2.2
    else ndL c.u (ndL c.l (lft c r) (ent c s e l).1.1 (ent c s e l).1.2.1 (ent c s e l).1.2.2).1 (ent c s e l).1.1 (ent c s e l).1.2.1 (ent c s e l).1.2.2) := by
  obtain ⟨k, t, f, p, x, l', u⟩ := c
  exact ndL_one' k t f p x l' u r s e l
theorem ndL_cons (c : Co) (t : List Co) (r s e l : Int) : ndL (c :: t) r s e l = (if (ndL [c] r s e l).2 ≠ 0 then ndL [c] r s e l else ndL t (ndL [c] r s e l).1 s e l) := by
  obtain ⟨k, t', f, p, x, l', u⟩ := c
  rw [ndL_one']
  rw [ndL]
  by_cases h1 : own (.mk k t' f p x l' u) (lft (.mk k t' f p x l' u) r) s e l ≠ 0
  · rw [if_pos h1, if_pos h1, if_pos h1]
  · rw [if_neg h1, if_neg h1]
    by_cases h2 : (ndL l' (lft (.mk k t' f p x l' u) r) (ent (.mk k t' f p x l' u) s e l).1.1 (ent (.mk k t' f p x l' u) s e l).1.2.1 (ent (.mk k t' f p x l' u) s e l).1.2.2).2 ≠ 0
    · rw [if_pos h2, if_pos h2, if_pos h2]
    · rw [if_neg h2, if_neg h2]
theorem lft_bd (c : Co) {r : Int} (h : -1 ≤ r ∧ r ≤ 65536) (hf : (c.f.length : Int) ≤ 140737488351232) (hp : (c.p.length : Int) ≤ 140737488351232) (hx : (c.x.length : Int) ≤ 140737488351232) : -900000000000000000 ≤ lft c r ∧ lft c r ≤ r := by
  unfold lft
  have := KPi.bq_bd (xsC c) (r := r - (1 + c.f.length + c.p.length + c.x.length)) (by omega)
  omega
end Go.Proofs.Ytenhljiibfdckaa.KNp

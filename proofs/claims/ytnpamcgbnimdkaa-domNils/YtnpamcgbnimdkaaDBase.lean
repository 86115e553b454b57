/- What an arena holds in memory: its box, its cells. -/
import Derived.Test.YtnpamcgbnimdkaaTBase
import Derived.Laws.OwnMore
namespace Go.Proofs.Ytnpamcgbnimdkaa.DBase
open Go.RowKit Go.Proofs.Ytnpamcgbnimdkaa.TBase
set_option linter.unusedVariables false

/-- A cell: live, tag, text, the list of its attributes, parent, first, last, the one ahead, the one behind. -/
structure Nd where
  mk ::
  (lv : Bool) (gt : ByteArray) (xt : ByteArray) (av : Value) (pa : Option Nat) (fi : Option Nat) (la : Option Nat) (pr : Option Nat) (ne : Option Nat)
/-- A link as a number. -/
def en : Option Nat → Int
  | none => -1
  | some k => (k : Int)
theorem en_none : en none = -1 := rfl
theorem en_some (k : Nat) : en (some k) = (k : Int) := rfl
theorem en_inj {a b : Option Nat} (h : en a = en b) : a = b := by
  cases a <;> cases b <;> simp only [en_none, en_some] at h
  · rfl
  · omega
  · omega
  · congr 1; omega
def Nd.put (d : Nd) (k : Nat) : Value := match k with
  | 0 => .bool d.lv
  | 1 => .string d.gt
  | 2 => .string d.xt
  | 3 => d.av
  | 4 => .int .i64 (en d.pa)
  | 5 => .int .i64 (en d.fi)
  | 6 => .int .i64 (en d.la)
  | 7 => .int .i64 (en d.pr)
  | _ => .int .i64 (en d.ne)
/-- The row of cells. -/
def Cr (w : World) (gc n : Nat) (c : Nat → Nd) : Prop := ∃ arr, w.heap[gc]? = some (.cells arr 71 (0, 0)) ∧ arr.size = n * 9 ∧ ∀ h k, h < n → k < 9 → arr[h * 9 + k]? = some ((c h).put k)
/-- One cell turned. -/
def up (c : Nat → Nd) (h : Nat) (d : Nd) : Nat → Nd := fun k => if k = h then d else c k
theorem up_same (c : Nat → Nd) (h : Nat) (d : Nd) : up c h d h = d := by simp [up]
theorem up_other (c : Nat → Nd) {h k : Nat} (d : Nd) (hk : k ≠ h) : up c h d k = c k := by simp [up, hk]
theorem Cr.at {w : World} {gc n : Nat} {c : Nat → Nd} (h : Cr w gc n c) {j k : Nat} (hj : j < n) (hk : k < 9) : w.cell? ⟨gc, j * 9 + k, none⟩ = some ((c j).put k) := by
  obtain ⟨arr, h1, h2, h3⟩ := h
  rw [cell_of_row w gc _ arr _ (0, 0) h1]
  exact h3 j k hj hk
theorem Cr.frozen {w : World} {gc n : Nat} {c : Nat → Nd} (h : Cr w gc n c) (j : Nat) : w.frozen? ⟨gc, j, none⟩ = false := by
  obtain ⟨arr, h1, -⟩ := h
  exact frozen_of_row w gc j arr _ h1
theorem Cr.lt {w : World} {gc n : Nat} {c : Nat → Nd} (h : Cr w gc n c) : gc < w.heap.size := by
  obtain ⟨arr, h1, -⟩ := h
  exact (Array.getElem?_eq_some_iff.1 h1).1
theorem Cr.keep {w w' : World} {gc n : Nat} {c : Nat → Nd} (h : Cr w gc n c) (hk : w'.heap[gc]? = w.heap[gc]?) : Cr w' gc n c := by
  obtain ⟨arr, h1, h2⟩ := h
  exact ⟨arr, hk.trans h1, h2⟩
/-- One word of one cell written. -/
theorem Cr.set {w : World} {gc n : Nat} {c : Nat → Nd} (h : Cr w gc n c) {j k : Nat} (hj : j < n) (hk : k < 9) (d : Nd) (hd : ∀ i, i < 9 → i ≠ k → d.put i = (c j).put i) : Cr (w.setCell ⟨gc, j * 9 + k, none⟩ (d.put k)) gc n (up c j d) := by
  obtain ⟨arr, h1, h2, h3⟩ := h
  refine ⟨_, heap_setCell_same w gc _ arr _ _ h1, by simpa using h2, fun i m hi hm => ?_⟩
  by_cases e : j * 9 + k = i * 9 + m
  · have e1 : i = j := by omega
    have e2 : m = k := by omega
    subst e1 e2
    have hs : i * 9 + m < arr.size := by omega
    rw [up_same, Array.getElem?_setIfInBounds]
    simp [hs]
  · rw [Array.getElem?_setIfInBounds_ne e, h3 i m hi hm]
    by_cases e1 : i = j
    · subst e1
      rw [up_same, hd m hm (by omega)]
    · rw [up_other _ _ e1]
theorem Cr.spa {w : World} {gc n : Nat} {c : Nat → Nd} (h : Cr w gc n c) {j : Nat} (hj : j < n) (b : Option Nat) : Cr (w.setCell ⟨gc, j * 9 + 4, none⟩ (.int .i64 (en b))) gc n (up c j { c j with pa := b }) :=
  h.set hj (k := 4) (by omega) { c j with pa := b } fun i hi hk => by
    match i, hi with
    | 0, _ | 1, _ | 2, _ | 3, _ | 5, _ | 6, _ | 7, _ | 8, _ => rfl
    | 4, _ => exact (hk rfl).elim
theorem Cr.sfi {w : World} {gc n : Nat} {c : Nat → Nd} (h : Cr w gc n c) {j : Nat} (hj : j < n) (b : Option Nat) : Cr (w.setCell ⟨gc, j * 9 + 5, none⟩ (.int .i64 (en b))) gc n (up c j { c j with fi := b }) :=
  h.set hj (k := 5) (by omega) { c j with fi := b } fun i hi hk => by
    match i, hi with
    | 0, _ | 1, _ | 2, _ | 3, _ | 4, _ | 6, _ | 7, _ | 8, _ => rfl
    | 5, _ => exact (hk rfl).elim
theorem Cr.sla {w : World} {gc n : Nat} {c : Nat → Nd} (h : Cr w gc n c) {j : Nat} (hj : j < n) (b : Option Nat) : Cr (w.setCell ⟨gc, j * 9 + 6, none⟩ (.int .i64 (en b))) gc n (up c j { c j with la := b }) :=
  h.set hj (k := 6) (by omega) { c j with la := b } fun i hi hk => by
    match i, hi with
    | 0, _ | 1, _ | 2, _ | 3, _ | 4, _ | 5, _ | 7, _ | 8, _ => rfl
    | 6, _ => exact (hk rfl).elim
theorem Cr.spr {w : World} {gc n : Nat} {c : Nat → Nd} (h : Cr w gc n c) {j : Nat} (hj : j < n) (b : Option Nat) : Cr (w.setCell ⟨gc, j * 9 + 7, none⟩ (.int .i64 (en b))) gc n (up c j { c j with pr := b }) :=
  h.set hj (k := 7) (by omega) { c j with pr := b } fun i hi hk => by
    match i, hi with
    | 0, _ | 1, _ | 2, _ | 3, _ | 4, _ | 5, _ | 6, _ | 8, _ => rfl
    | 7, _ => exact (hk rfl).elim
theorem Cr.sne {w : World} {gc n : Nat} {c : Nat → Nd} (h : Cr w gc n c) {j : Nat} (hj : j < n) (b : Option Nat) : Cr (w.setCell ⟨gc, j * 9 + 8, none⟩ (.int .i64 (en b))) gc n (up c j { c j with ne := b }) :=
  h.set hj (k := 8) (by omega) { c j with ne := b } fun i hi hk => by
    match i, hi with
    | 0, _ | 1, _ | 2, _ | 3, _ | 4, _ | 5, _ | 6, _ | 7, _ => rfl
    | 8, _ => exact (hk rfl).elim
theorem up_up (c : Nat → Nd) (h : Nat) (a b : Nd) : up (up c h a) h b = up c h b := by
  funext k
  simp only [up]
  split <;> rfl
/-- A whole cell written. -/
theorem Cr.putAll {w : World} {gc n : Nat} {c : Nat → Nd} (h : Cr w gc n c) {j : Nat} (hj : j < n) (d : Nd) : Cr (((((((((w.setCell ⟨gc, j * 9 + 0, none⟩ (d.put 0)).setCell ⟨gc, j * 9 + 1, none⟩ (d.put 1)).setCell ⟨gc, j * 9 + 2, none⟩ (d.put 2)).setCell ⟨gc, j * 9 + 3, none⟩ (d.put 3)).setCell ⟨gc, j * 9 + 4, none⟩ (d.put 4)).setCell ⟨gc, j * 9 + 5, none⟩ (d.put 5)).setCell ⟨gc, j * 9 + 6, none⟩ (d.put 6)).setCell ⟨gc, j * 9 + 7, none⟩ (d.put 7)).setCell ⟨gc, j * 9 + 8, none⟩ (d.put 8)) gc n (up c j d) := by
  have h0 : Cr (w.setCell ⟨gc, j * 9 + 0, none⟩ (d.put 0)) gc n (up c j ⟨d.lv, (c j).gt, (c j).xt, (c j).av, (c j).pa, (c j).fi, (c j).la, (c j).pr, (c j).ne⟩) := h.set hj (k := 0) (by omega) ⟨d.lv, (c j).gt, (c j).xt, (c j).av, (c j).pa, (c j).fi, (c j).la, (c j).pr, (c j).ne⟩ fun i hi hk => by
    match i, hi with
    | 1, _ | 2, _ | 3, _ | 4, _ | 5, _ | 6, _ | 7, _ | 8, _ => rfl
    | 0, _ => exact (hk rfl).elim
  have h1 : Cr ((w.setCell ⟨gc, j * 9 + 0, none⟩ (d.put 0)).setCell ⟨gc, j * 9 + 1, none⟩ (d.put 1)) gc n (up c j ⟨d.lv, d.gt, (c j).xt, (c j).av, (c j).pa, (c j).fi, (c j).la, (c j).pr, (c j).ne⟩) := by
    have q := h0.set hj (k := 1) (by omega) ⟨d.lv, d.gt, (c j).xt, (c j).av, (c j).pa, (c j).fi, (c j).la, (c j).pr, (c j).ne⟩ fun i hi hk => by
      rw [up_same]
      match i, hi with
      | 0, _ | 2, _ | 3, _ | 4, _ | 5, _ | 6, _ | 7, _ | 8, _ => rfl
      | 1, _ => exact (hk rfl).elim
    rw [up_up] at q
    exact q
  have h2 : Cr (((w.setCell ⟨gc, j * 9 + 0, none⟩ (d.put 0)).setCell ⟨gc, j * 9 + 1, none⟩ (d.put 1)).setCell ⟨gc, j * 9 + 2, none⟩ (d.put 2)) gc n (up c j ⟨d.lv, d.gt, d.xt, (c j).av, (c j).pa, (c j).fi, (c j).la, (c j).pr, (c j).ne⟩) := by
    have q := h1.set hj (k := 2) (by omega) ⟨d.lv, d.gt, d.xt, (c j).av, (c j).pa, (c j).fi, (c j).la, (c j).pr, (c j).ne⟩ fun i hi hk => by
      rw [up_same]
      match i, hi with
      | 0, _ | 1, _ | 3, _ | 4, _ | 5, _ | 6, _ | 7, _ | 8, _ => rfl
      | 2, _ => exact (hk rfl).elim
    rw [up_up] at q
    exact q
  have h3 : Cr ((((w.setCell ⟨gc, j * 9 + 0, none⟩ (d.put 0)).setCell ⟨gc, j * 9 + 1, none⟩ (d.put 1)).setCell ⟨gc, j * 9 + 2, none⟩ (d.put 2)).setCell ⟨gc, j * 9 + 3, none⟩ (d.put 3)) gc n (up c j ⟨d.lv, d.gt, d.xt, d.av, (c j).pa, (c j).fi, (c j).la, (c j).pr, (c j).ne⟩) := by
    have q := h2.set hj (k := 3) (by omega) ⟨d.lv, d.gt, d.xt, d.av, (c j).pa, (c j).fi, (c j).la, (c j).pr, (c j).ne⟩ fun i hi hk => by
      rw [up_same]
      match i, hi with
      | 0, _ | 1, _ | 2, _ | 4, _ | 5, _ | 6, _ | 7, _ | 8, _ => rfl
      | 3, _ => exact (hk rfl).elim
    rw [up_up] at q
    exact q
  have h4 : Cr (((((w.setCell ⟨gc, j * 9 + 0, none⟩ (d.put 0)).setCell ⟨gc, j * 9 + 1, none⟩ (d.put 1)).setCell ⟨gc, j * 9 + 2, none⟩ (d.put 2)).setCell ⟨gc, j * 9 + 3, none⟩ (d.put 3)).setCell ⟨gc, j * 9 + 4, none⟩ (d.put 4)) gc n (up c j ⟨d.lv, d.gt, d.xt, d.av, d.pa, (c j).fi, (c j).la, (c j).pr, (c j).ne⟩) := by
    have q := h3.set hj (k := 4) (by omega) ⟨d.lv, d.gt, d.xt, d.av, d.pa, (c j).fi, (c j).la, (c j).pr, (c j).ne⟩ fun i hi hk => by
      rw [up_same]
      match i, hi with
      | 0, _ | 1, _ | 2, _ | 3, _ | 5, _ | 6, _ | 7, _ | 8, _ => rfl
      | 4, _ => exact (hk rfl).elim
    rw [up_up] at q
    exact q
  have h5 : Cr ((((((w.setCell ⟨gc, j * 9 + 0, none⟩ (d.put 0)).setCell ⟨gc, j * 9 + 1, none⟩ (d.put 1)).setCell ⟨gc, j * 9 + 2, none⟩ (d.put 2)).setCell ⟨gc, j * 9 + 3, none⟩ (d.put 3)).setCell ⟨gc, j * 9 + 4, none⟩ (d.put 4)).setCell ⟨gc, j * 9 + 5, none⟩ (d.put 5)) gc n (up c j ⟨d.lv, d.gt, d.xt, d.av, d.pa, d.fi, (c j).la, (c j).pr, (c j).ne⟩) := by
    have q := h4.set hj (k := 5) (by omega) ⟨d.lv, d.gt, d.xt, d.av, d.pa, d.fi, (c j).la, (c j).pr, (c j).ne⟩ fun i hi hk => by
      rw [up_same]
      match i, hi with
      | 0, _ | 1, _ | 2, _ | 3, _ | 4, _ | 6, _ | 7, _ | 8, _ => rfl
      | 5, _ => exact (hk rfl).elim
    rw [up_up] at q
    exact q
  have h6 : Cr (((((((w.setCell ⟨gc, j * 9 + 0, none⟩ (d.put 0)).setCell ⟨gc, j * 9 + 1, none⟩ (d.put 1)).setCell ⟨gc, j * 9 + 2, none⟩ (d.put 2)).setCell ⟨gc, j * 9 + 3, none⟩ (d.put 3)).setCell ⟨gc, j * 9 + 4, none⟩ (d.put 4)).setCell ⟨gc, j * 9 + 5, none⟩ (d.put 5)).setCell ⟨gc, j * 9 + 6, none⟩ (d.put 6)) gc n (up c j ⟨d.lv, d.gt, d.xt, d.av, d.pa, d.fi, d.la, (c j).pr, (c j).ne⟩) := by
    have q := h5.set hj (k := 6) (by omega) ⟨d.lv, d.gt, d.xt, d.av, d.pa, d.fi, d.la, (c j).pr, (c j).ne⟩ fun i hi hk => by
      rw [up_same]
      match i, hi with
      | 0, _ | 1, _ | 2, _ | 3, _ | 4, _ | 5, _ | 7, _ | 8, _ => rfl
      | 6, _ => exact (hk rfl).elim
    rw [up_up] at q
    exact q
  have h7 : Cr ((((((((w.setCell ⟨gc, j * 9 + 0, none⟩ (d.put 0)).setCell ⟨gc, j * 9 + 1, none⟩ (d.put 1)).setCell ⟨gc, j * 9 + 2, none⟩ (d.put 2)).setCell ⟨gc, j * 9 + 3, none⟩ (d.put 3)).setCell ⟨gc, j * 9 + 4, none⟩ (d.put 4)).setCell ⟨gc, j * 9 + 5, none⟩ (d.put 5)).setCell ⟨gc, j * 9 + 6, none⟩ (d.put 6)).setCell ⟨gc, j * 9 + 7, none⟩ (d.put 7)) gc n (up c j ⟨d.lv, d.gt, d.xt, d.av, d.pa, d.fi, d.la, d.pr, (c j).ne⟩) := by
    have q := h6.set hj (k := 7) (by omega) ⟨d.lv, d.gt, d.xt, d.av, d.pa, d.fi, d.la, d.pr, (c j).ne⟩ fun i hi hk => by
      rw [up_same]
      match i, hi with
      | 0, _ | 1, _ | 2, _ | 3, _ | 4, _ | 5, _ | 6, _ | 8, _ => rfl
      | 7, _ => exact (hk rfl).elim
    rw [up_up] at q
    exact q
  have h8 : Cr (((((((((w.setCell ⟨gc, j * 9 + 0, none⟩ (d.put 0)).setCell ⟨gc, j * 9 + 1, none⟩ (d.put 1)).setCell ⟨gc, j * 9 + 2, none⟩ (d.put 2)).setCell ⟨gc, j * 9 + 3, none⟩ (d.put 3)).setCell ⟨gc, j * 9 + 4, none⟩ (d.put 4)).setCell ⟨gc, j * 9 + 5, none⟩ (d.put 5)).setCell ⟨gc, j * 9 + 6, none⟩ (d.put 6)).setCell ⟨gc, j * 9 + 7, none⟩ (d.put 7)).setCell ⟨gc, j * 9 + 8, none⟩ (d.put 8)) gc n (up c j ⟨d.lv, d.gt, d.xt, d.av, d.pa, d.fi, d.la, d.pr, d.ne⟩) := by
    have q := h7.set hj (k := 8) (by omega) ⟨d.lv, d.gt, d.xt, d.av, d.pa, d.fi, d.la, d.pr, d.ne⟩ fun i hi hk => by
      rw [up_same]
      match i, hi with
      | 0, _ | 1, _ | 2, _ | 3, _ | 4, _ | 5, _ | 6, _ | 7, _ => rfl
      | 8, _ => exact (hk rfl).elim
    rw [up_up] at q
    exact q
  exact h8
theorem grown_set {w wr : World} {g : Nat} (h : w.grownBy wr (some g)) (j : Nat) (u : Value) : w.grownBy (wr.setCell ⟨g, j, none⟩ u) (some g) :=
  ⟨h.os, h.tape, h.output, Nat.le_trans h.size (by simp [World.setCell]), fun k hk hne => (heap_setCell_other wr ⟨g, j, none⟩ k u (fun e => hne (by rw [e]))).trans (h.block k hk hne)⟩
/-- The arena's own box. -/
def Bx (w : World) (p gc n : Nat) (fv : Value) (q : Nat → Int) : Prop :=
  w.heap[p]? = some (.cells #[.slice (some ⟨gc, 0, none⟩) n n, fv, .int .i64 (q 0), .int .i64 (q 1), .int .i64 (q 2), .int .i64 (q 3), .int .i64 (q 4), .int .i64 (q 5), .int .i64 (q 6)] 75 (0, 0))
theorem Bx.at0 {w : World} {p gc n : Nat} {fv : Value} {q : Nat → Int} (h : Bx w p gc n fv q) : w.cell? ⟨p, 0, none⟩ = some (.slice (some ⟨gc, 0, none⟩) n n) := by
  unfold Bx at h
  simp [World.cell?, h]
theorem Bx.at1 {w : World} {p gc n : Nat} {fv : Value} {q : Nat → Int} (h : Bx w p gc n fv q) : w.cell? ⟨p, 1, none⟩ = some fv := by
  unfold Bx at h
  simp [World.cell?, h]
theorem Bx.keep {w w' : World} {p gc n : Nat} {fv : Value} {q : Nat → Int} (h : Bx w p gc n fv q) (hk : w'.heap[p]? = w.heap[p]?) : Bx w' p gc n fv q := hk.trans h
theorem Bx.lt {w : World} {p gc n : Nat} {fv : Value} {q : Nat → Int} (h : Bx w p gc n fv q) : p < w.heap.size := (Array.getElem?_eq_some_iff.1 h).1
/-- The box is not the row. -/
theorem ne_of {w : World} {p gc n m : Nat} {fv : Value} {q : Nat → Int} {c : Nat → Nd} (h : Bx w p gc n fv q) (hc : Cr w gc m c) : p ≠ gc := by
  rintro rfl
  obtain ⟨arr, h1, -⟩ := hc
  unfold Bx at h
  rw [h] at h1
  simp at h1
end Go.Proofs.Ytnpamcgbnimdkaa.DBase

/- Expressions: the plain reader: tokens, nesting, levels (no walk). -/
import Derived.WalkKit
import Derived.Test.YthjbknncbhkinaaGreatDoorSums
import Derived.Lib.ItoaMem
import Derived.Test.YthjbknncbhkinaaGreatDoorUBase
namespace Go.Proofs.YthjbknncbhkinaaGreatDoor.Sums
open Go Go.RowKit

def isDig (c : UInt8) : Bool := decide (48 ≤ c.toNat) && decide (c.toNat ≤ 57)
/-- Digits of which the first is not 0. -/
def posForm (l : List UInt8) : Bool := match l with
  | [] => false
  | c :: r => (c.toNat != 48) && (c :: r).all isDig
def val (l : List UInt8) : Nat := l.foldl (fun n c => n * 10 + (c.toNat - 48)) 0
/-- The bytes of a string. -/
def bs (s : ByteArray) : List UInt8 := s.data.toList
theorem bs_length (s : ByteArray) : (bs s).length = s.size := Array.length_toList
theorem bs_get (s : ByteArray) (j : Nat) (h : j < s.size) : s[j] = (bs s)[j]'(by rw [bs_length]; exact h) := by
  unfold bs
  rw [Array.getElem_toList]
  rfl
theorem val_take (l : List UInt8) (n : Nat) (h : n < l.length) : val (l.take (n + 1)) = val (l.take n) * 10 + (l[n].toNat - 48) := by
  rw [List.take_succ_eq_append_getElem h, val, List.foldl_append]
  rfl
theorem val_nil : val [] = 0 := rfl
theorem isDig_le {c : UInt8} (h : isDig c = true) : 48 ≤ c.toNat ∧ c.toNat ≤ 57 := by
  simpa [isDig] using h
theorem val_append (l r : List UInt8) : val (l ++ r) = val l * 10 ^ r.length + val r := by
  have g : ∀ (r : List UInt8) (x : Nat), r.foldl (fun n c => n * 10 + (c.toNat - 48)) x = x * 10 ^ r.length + r.foldl (fun n c => n * 10 + (c.toNat - 48)) 0 := by
    intro r
    induction r with
    | nil => intro x; simp
    | cons c r ih =>
      intro x
      rw [List.foldl_cons, List.foldl_cons, ih, ih (0 * 10 + (c.toNat - 48)), List.length_cons, Nat.pow_succ]
      grind
  rw [val, List.foldl_append, g]
  rfl
theorem val_lt (l : List UInt8) (h : l.all isDig = true) : val l < 10 ^ l.length := by
  induction l with
  | nil => simp [val]
  | cons c r ih =>
    rw [List.all_cons, Bool.and_eq_true] at h
    have hc := isDig_le h.1
    have := ih h.2
    have e : val (c :: r) = val [c] * 10 ^ r.length + val r := val_append [c] r
    have e1 : val [c] = c.toNat - 48 := by simp [val]
    have hm : (c.toNat - 48) * 10 ^ r.length ≤ 9 * 10 ^ r.length := Nat.mul_le_mul_right _ (by omega)
    rw [e, e1, List.length_cons, Nat.pow_succ]
    omega
/-- A number whose first digit is not 0 has its length. -/
theorem val_ge (l : List UInt8) (h : posForm l = true) : 10 ^ (l.length - 1) ≤ val l := by
  match l, h with
  | c :: r, h =>
    simp only [posForm, Bool.and_eq_true, bne_iff_ne, ne_eq, List.all_cons] at h
    have hc := isDig_le h.2.1
    have e : val (c :: r) = val [c] * 10 ^ r.length + val r := val_append [c] r
    have e1 : val [c] = c.toNat - 48 := by simp [val]
    have hm : 1 * 10 ^ r.length ≤ (c.toNat - 48) * 10 ^ r.length := Nat.mul_le_mul_right _ (by omega)
    rw [e, e1, List.length_cons, Nat.add_sub_cancel]
    omega
theorem posForm_all {l : List UInt8} (h : posForm l = true) : l.all isDig = true := by
  match l, h with
  | c :: r, h =>
    simp only [posForm, Bool.and_eq_true] at h
    exact h.2
theorem posForm_pos {l : List UInt8} (h : posForm l = true) : 0 < l.length := by
  match l, h with
  | c :: r, _ => simp
theorem posForm_of {l : List UInt8} (h0 : 0 < l.length) (hz : l[0].toNat ≠ 48) (h : ∀ j (hj : j < l.length), isDig l[j] = true) : posForm l = true := by
  match l, h0 with
  | c :: r, _ =>
    simp only [posForm, Bool.and_eq_true, bne_iff_ne, ne_eq]
    refine ⟨hz, ?_⟩
    rw [List.all_eq_true]
    intro x hx
    obtain ⟨j, hj, rfl⟩ := List.mem_iff_getElem.mp hx
    exact h j hj
theorem posForm_not {l : List UInt8} {j : Nat} (hj : j < l.length) (h : isDig l[j] = false) : posForm l = false := by
  cases c : posForm l
  · rfl
  · have := List.all_eq_true.mp (posForm_all c) l[j] (List.getElem_mem hj)
    rw [h] at this
    exact absurd this (by decide)
theorem posForm_zero {l : List UInt8} (h0 : 0 < l.length) (hz : l[0].toNat = 48) : posForm l = false := by
  match l, h0 with
  | c :: r, _ =>
    simp only [posForm]
    have : (c.toNat != 48) = false := by simpa using hz
    rw [this, Bool.false_and]
end Go.Proofs.YthjbknncbhkinaaGreatDoor.Sums

namespace Go.Proofs.YthjbknncbhkinaaGreatDoor.Nums
set_option linter.unusedVariables false
open Go.RowKit Go.Proofs.YthjbknncbhkinaaGreatDoor.Sums

/-! ### What Parse answers -/
def bl (l : List UInt8) : Bool := l.head? == some 45
def dl (l : List UInt8) : List UInt8 := if bl l then l.tail else l
def good (l : List UInt8) : Bool := (l == [48]) || posForm (dl l)
def pval (l : List UInt8) : Int := sg (bl l) (val (dl l) : Nat)
def pn (b : Bool) (l : List UInt8) : Int := if posForm l then num (sg b (val l : Nat)) else 0
def pe (b : Bool) (l : List UInt8) : Int := if posForm l then err (sg b (val l : Nat)) else 104
theorem pn_bad {b : Bool} {l : List UInt8} (h : posForm l = false) : pn b l = 0 := by rw [pn, h]; rfl
theorem pe_bad {b : Bool} {l : List UInt8} (h : posForm l = false) : pe b l = 104 := by rw [pe, h]; rfl
theorem pn_good {b : Bool} {l : List UInt8} (h : posForm l = true) : pn b l = num (sg b (val l : Nat)) := by rw [pn, if_pos h]
theorem pe_good {b : Bool} {l : List UInt8} (h : posForm l = true) : pe b l = err (sg b (val l : Nat)) := by rw [pe, if_pos h]
def pnum (l : List UInt8) : Int := if good l then num (pval l) else 0
def perr (l : List UInt8) : Int := if good l then err (pval l) else 104
theorem bs_tail (s : ByteArray) : bs (s.extract 1 s.size) = (bs s).tail := by
  unfold bs
  rw [← List.drop_one, ByteArray.data_extract, Array.toList_extract]
  simp only [List.extract_eq_take_drop]
  rw [List.take_of_length_le]
  rw [List.length_drop, Array.length_toList]
  exact Nat.le_refl _
theorem bl_of {s : ByteArray} (h0 : 0 < s.size) : bl (bs s) = decide (s[0].toNat = 45) := by
  have e := bs_get s 0 h0
  have hl := bs_length s
  match h : bs s with
  | [] => rw [h] at hl; simp at hl; omega
  | c :: r =>
    have e2 : s[0] = c := by rw [e]; simp [h]
    rw [e2]
    simp only [bl, List.head?_cons]
    by_cases hc : c.toNat = 45
    · have : c = 45 := UInt8.toNat_inj.mp hc
      subst this
      rfl
    · have : c ≠ 45 := fun h => hc (by rw [h]; rfl)
      simp [hc, this]
theorem long_out {l : List UInt8} (b : Bool) (hp : posForm l = true) (hl : 19 < l.length) : sg b (val l : Nat) < -9223372036854775808 ∨ 9223372036854775807 < sg b (val l : Nat) := by
  have h1 := val_ge l hp
  have h2 := Nat.pow_le_pow_right (show 0 < 10 by omega) (show 19 ≤ l.length - 1 by omega)
  cases b
  · rw [sg_false]; omega
  · rw [sg_true]; omega
theorem nought_of {s : ByteArray} (h : bs s = [48]) : s = ⟨#[48]⟩ := by
  apply ByteArray.ext
  apply Array.ext'
  exact h
theorem val_snoc (l : List UInt8) (c : UInt8) : val (l ++ [c]) = val l * 10 + (c.toNat - 48) := by
  rw [val, List.foldl_append]; rfl
theorem ofNat_toNat {n : Nat} (h : n < 256) : (UInt8.ofNat n).toNat = n := by
  rw [UInt8.toNat_ofNat']; exact Nat.mod_eq_of_lt h
theorem val_digits (N : Nat) : val (Lib.decDigits N) = N := by
  induction N using Nat.strongRecOn with
  | _ N ih =>
    by_cases h : N < 10
    · rw [Lib.decDigits_one h, show [UInt8.ofNat (48 + N)] = [] ++ [UInt8.ofNat (48 + N)] from rfl, val_snoc, ofNat_toNat (by omega), val_nil]
      omega
    · rw [Lib.decDigits, dif_neg h, val_snoc, ih (N / 10) (by omega), ofNat_toNat (by omega)]
      omega
theorem posForm_snoc {l : List UInt8} {c : UInt8} (h : posForm l = true) (hc : isDig c = true) : posForm (l ++ [c]) = true := by
  match l, h with
  | d :: r, h =>
    simp only [posForm, Bool.and_eq_true] at h
    have e : ((d :: r) ++ [c]).all isDig = true := by
      rw [List.all_append, h.2]
      simp [hc]
    show ((d.toNat != 48) && ((d :: r) ++ [c]).all isDig) = true
    rw [h.1, e]
    rfl
theorem posForm_digits {N : Nat} (hN : 0 < N) : posForm (Lib.decDigits N) = true := by
  induction N using Nat.strongRecOn with
  | _ N ih =>
    by_cases h : N < 10
    · rw [Lib.decDigits_one h]
      have e : (UInt8.ofNat (48 + N)).toNat = 48 + N := ofNat_toNat (by omega)
      simp only [posForm, List.all_cons, List.all_nil, isDig, e]
      simp; omega
    · rw [Lib.decDigits, dif_neg h]
      refine posForm_snoc (ih (N / 10) (by omega) (by omega)) ?_
      have e : (UInt8.ofNat (48 + N % 10)).toNat = 48 + N % 10 := ofNat_toNat (by omega)
      simp only [isDig, e]
      simp; omega
theorem ofNat_dig {c : UInt8} (h : isDig c = true) {n : Nat} (hn : n = c.toNat - 48) : UInt8.ofNat (48 + n) = c := by
  have hc := isDig_le h
  apply UInt8.toNat_inj.mp
  rw [ofNat_toNat (by omega)]
  omega
/-- One number has one text. -/
theorem digits_val (l : List UInt8) (h : posForm l = true) : Lib.decDigits (val l) = l := by
  induction hn : l.length generalizing l with
  | zero => rw [List.eq_nil_of_length_eq_zero hn] at h; cases h
  | succ n ih0 =>
    obtain ⟨l, c, rfl⟩ : ∃ l' c, l = l' ++ [c] := by
      rcases List.eq_nil_or_concat l with h0 | ⟨l', c, h0⟩
      · rw [h0] at hn; cases hn
      · exact ⟨l', c, by rw [h0, List.concat_eq_append]⟩
    have ih : posForm l = true → Lib.decDigits (val l) = l := fun h => ih0 l h (by simpa using hn)
    clear hn ih0
    have hall := posForm_all h
    rw [List.all_append, Bool.and_eq_true] at hall
    have hc : isDig c = true := by simpa using hall.2
    have hd := isDig_le hc
    rw [val_snoc]
    match l, h, ih, hall with
    | [], h, _, _ =>
      rw [val_nil, Nat.zero_mul, Nat.zero_add, Lib.decDigits_one (by omega), ofNat_dig hc rfl]
      rfl
    | d :: r, h, ih, hall =>
      have hp : posForm (d :: r) = true := by
        simp only [posForm, List.cons_append, Bool.and_eq_true] at h ⊢
        exact ⟨h.1, hall.1⟩
      have hv : 1 ≤ val (d :: r) := Nat.le_trans (Nat.one_le_pow _ _ (by decide)) (val_ge _ hp)
      rw [Lib.decDigits, dif_neg (by omega), show (val (d :: r) * 10 + (c.toNat - 48)) / 10 = val (d :: r) by omega, ih hp, ofNat_dig hc (by omega)]
theorem bs_mk (l : List UInt8) : bs ⟨l.toArray⟩ = l := rfl
theorem head_digits {N : Nat} (hN : 0 < N) : bl (Lib.decDigits N) = false := by
  have hp := posForm_digits hN
  match h : Lib.decDigits N, hp with
  | c :: r, hp =>
    have hc := isDig_le (List.all_eq_true.mp (posForm_all hp) c (by simp))
    have : c ≠ 45 := fun e => by subst e; exact absurd hc.1 (by decide)
    simp [bl, this]
theorem good_itoa (a : Int) : good (Lib.itoa a) = true ∧ pval (Lib.itoa a) = a := by
  by_cases h : a < 0
  · obtain ⟨u, hu, rfl⟩ : ∃ u : Nat, 1 ≤ u ∧ a = -(u : Int) := ⟨a.natAbs, by omega, by omega⟩
    rw [Lib.itoa_neg u hu]
    have e1 : bl (45 :: Lib.decDigits u) = true := rfl
    have e2 : dl (45 :: Lib.decDigits u) = Lib.decDigits u := by rw [dl, if_pos e1]; rfl
    refine ⟨?_, ?_⟩
    · rw [good, e2, posForm_digits (by omega), Bool.or_true]
    · rw [pval, e1, e2, val_digits, sg_true]
  · obtain ⟨u, rfl⟩ : ∃ u : Nat, a = (u : Int) := ⟨a.natAbs, by omega⟩
    rw [Lib.itoa_nonneg u]
    by_cases hu : u = 0
    · subst hu
      rw [Lib.decDigits_one (by omega)]
      exact ⟨rfl, rfl⟩
    · have e1 := head_digits (N := u) (by omega)
      have e2 : dl (Lib.decDigits u) = Lib.decDigits u := by rw [dl, if_neg (by rw [e1]; decide)]
      refine ⟨?_, ?_⟩
      · rw [good, e2, posForm_digits (by omega), Bool.or_true]
      · rw [pval, e1, e2, val_digits, sg_false]
theorem parse_itoa (a : Int) (h0 : -9223372036854775808 ≤ a) (h1 : a ≤ 9223372036854775807) : pnum (Lib.itoa a) = a ∧ perr (Lib.itoa a) = 0 := by
  obtain ⟨g, v⟩ := good_itoa a
  rw [pnum, perr, if_pos g, if_pos g, v]
  exact ⟨num_in h0 h1, err_in h0 h1⟩
theorem itoa_parse (l : List UInt8) (h : perr l = 0) : Lib.itoa (pnum l) = l := by
  have g : good l = true := by
    cases hg : good l
    · rw [perr, hg] at h; simp at h
    · rfl
  rw [perr, if_pos g] at h
  have hr := err_zero h
  rw [pnum, if_pos g, hr.2.2]
  rw [good, Bool.or_eq_true] at g
  rcases g with g | g
  · have : l = [48] := by simpa using g
    subst this
    have e : pval [48] = ((0 : Nat) : Int) := rfl
    rw [e, Lib.itoa_nonneg, Lib.decDigits_one (by omega)]
    rfl
  · have hv : 1 ≤ val (dl l) := Nat.le_trans (Nat.one_le_pow _ _ (by decide)) (val_ge _ g)
    cases hb : bl l
    · have e2 : dl l = l := by rw [dl, if_neg (by rw [hb]; decide)]
      rw [e2] at g
      rw [pval, hb, sg_false, Lib.itoa_nonneg, e2, digits_val l g]
    · have e2 : dl l = l.tail := by rw [dl, if_pos hb]
      rw [pval, hb, sg_true, Lib.itoa_neg _ hv, digits_val _ g, e2]
      match l, hb with
      | c :: r, hb =>
        have : c = 45 := by simpa [bl] using hb
        subst this
        rfl
theorem pnum_range (l : List UInt8) : -9223372036854775808 ≤ pnum l ∧ pnum l ≤ 9223372036854775807 := by
  unfold pnum
  split
  · exact ⟨num_ge _, num_le _⟩
  · omega
end Go.Proofs.YthjbknncbhkinaaGreatDoor.Nums

namespace Go.Proofs.YthjbknncbhkinaaGreatDoor.EPure
open Go.Proofs.YthjbknncbhkinaaGreatDoor.UBase
set_option linter.unusedVariables false

/-- An expression: its Op, Int, Str, Kids. -/
structure Ex where
  mk ::
  (o0 : Int) (i0 : Int) (s0 : ByteArray) (l0 : List Ex)
def Ex.o : Ex → Int | .mk o _ _ _ => o
def Ex.i : Ex → Int | .mk _ i _ _ => i
def Ex.s : Ex → ByteArray | .mk _ _ s _ => s
def Ex.l : Ex → List Ex | .mk _ _ _ l => l
/-- A fault: its code and its place. -/
abbrev F := Nat × Nat
/-- A token: its kind (0 the end, 1 a number, 2 a text, 3 a name, 4 a sign), text, number, place. -/
structure Tk where
  k : Nat
  t : ByteArray
  n : Int
  a : Nat
def isb (c : Nat) : Bool := c == 32 || (c == 9 || (c == 10 || c == 13))
def dig (c : Nat) : Bool := decide (48 ≤ c) && decide (c ≤ 57)
def let' (c : Nat) : Bool := decide (97 ≤ c) && decide (c ≤ 122)
def wrd (c : Nat) : Bool := let' c || (dig c || c == 95)
/-- The first place from i on whose byte is none of those. -/
def sk (p : Nat → Bool) (s : ByteArray) : Nat → Nat → Nat
  | 0, i => i
  | f + 1, i => if i < s.size ∧ p (at' s i) = true then sk p s f (i + 1) else i
def skp (p : Nat → Bool) (s : ByteArray) (i : Nat) : Nat := sk p s (s.size - i) i
/-- The signs, the long ones first. -/
def signs : List (List UInt8) := [[124, 124], [38, 38], [61, 61], [33, 61], [60, 61], [62, 61], [60, 60], [62, 62], [63], [58], [60], [62], [124], [94], [38], [126], [43], [45], [42], [47], [37], [33], [46], [91], [93], [40], [41]]
def pre (s : ByteArray) (i : Nat) (x : List UInt8) : Bool := decide (i + x.length ≤ s.size) && ((s.data.toList.drop i).take x.length == x)
def sgn (s : ByteArray) (i : Nat) : List (List UInt8) → Except F (ByteArray × Nat)
  | [] => .error (1000, i)
  | x :: l => if pre s i x = true then .ok (⟨x.toArray⟩, i + x.length) else sgn s i l
/-- What stands behind a backslash. -/
def esc (c : Nat) : Option Nat := if c = 39 then some 39 else if c = 92 then some 92 else if c = 125 then some 125 else if c = 110 then some 10 else none
/-- A character of a text: its bytes and the place behind it. -/
def chr (s : ByteArray) (i : Nat) : Except F (List UInt8 × Nat) :=
  if s.size ≤ i then .error (1000, i)
  else if at' s i < 32 then .error (1000, i)
  else if at' s i = 92 then
    if s.size ≤ i + 1 then .error (1000, i + 1)
    else match esc (at' s (i + 1)) with
      | none => .error (1000, i + 1)
      | some c => .ok ([UInt8.ofNat c], i + 2)
  else if len s i = 0 then .error (1000, i)
  else .ok ((s.data.toList.drop i).take (len s i), i + len s i)
def txl (s : ByteArray) : Nat → Nat → List UInt8 → Except F (List UInt8 × Nat)
  | 0, i, _ => .error (1000, i)
  | f + 1, i, acc => if s.size ≤ i then .error (1000, i) else if at' s i = 39 then .ok (acc, i + 1) else match chr s i with
    | .error e => .error e
    | .ok (x, j) => txl s f j (acc ++ x)
def cut (s : ByteArray) (i j : Nat) : ByteArray := s.extract i j
/-- The token that begins at i, and the place behind it. -/
def scan (s : ByteArray) (i : Nat) : Except F (Tk × Nat) :=
  if s.size ≤ i then .ok (⟨0, ⟨#[]⟩, 0, i⟩, i)
  else if at' s i = 39 then match txl s (s.size + 1) (i + 1) [] with
    | .error e => .error e
    | .ok (l, j) => if 4096 < l.length then .error (1002, i) else .ok (⟨2, ⟨l.toArray⟩, 0, i⟩, j)
  else if at' s i = 48 then .ok (⟨1, ⟨#[]⟩, 0, i⟩, i + 1)
  else if dig (at' s i) = true then
    if Nums.perr (Sums.bs (cut s i (skp dig s i))) = 0 then .ok (⟨1, ⟨#[]⟩, Nums.pnum (Sums.bs (cut s i (skp dig s i))), i⟩, skp dig s i) else .error (1000, i)
  else if let' (at' s i) = true then
    if skp wrd s i - i ≤ 32 then .ok (⟨3, cut s i (skp wrd s i), 0, i⟩, skp wrd s i) else .error (1000, i)
  else match sgn s i signs with
    | .error e => .error e
    | .ok (x, j) => .ok (⟨4, x, 0, i⟩, j)
/-- The reader: the next token, the place behind it, how many have been read. -/
structure Sr where
  tk : Tk
  a : Nat
  r : Nat
def adv (s : ByteArray) (a r : Nat) : Except F Sr := match scan s (skp isb s a) with
  | .error e => .error e
  | .ok (t, j) => if t.k = 0 then .ok ⟨t, j, r⟩ else if r = 512 then .error (1002, t.a) else .ok ⟨t, j, r + 1⟩
def is (t : Tk) (x : List UInt8) : Bool := t.k == 4 && t.t.data.toList == x
def ends (t : Tk) : F := (1000, t.a)
def tak (s : ByteArray) (x : List UInt8) (g : Sr) : Except F Sr := if is g.tk x = true then adv s g.a g.r else .error (ends g.tk)
/-- The levels with two operands. -/
def lvs : List (List (List UInt8 × Int)) := [[([124, 124], 30)], [([38, 38], 29)], [([61, 61], 27), ([33, 61], 28)], [([60], 23), ([60, 61], 24), ([62], 25), ([62, 61], 26)], [([124], 22)], [([94], 21)], [([38], 20)], [([60, 60], 18), ([62, 62], 19)], [([126], 17)], [([43], 15), ([45], 16)], [([42], 12), ([47], 13), ([37], 14)]]
/-- The Op of a level whose sign this token is. -/
def opOf (t : Tk) : List (List UInt8 × Int) → Option Int
  | [] => none
  | (x, o) :: l => if is t x = true then some o else opOf t l
def wordOp (x : List UInt8) : Option Int := if x = [110, 117, 108, 108] then some 1 else if x = [102, 97, 108, 115, 101] then some 2 else if x = [116, 114, 117, 101] then some 3 else none
def callOf (x : List UInt8) : Option Int := if x = [108, 101, 110] then some 1 else if x = [115, 116, 114] then some 2 else if x = [105, 56] then some 3 else if x = [117, 56] then some 4 else if x = [105, 49, 54] then some 5 else if x = [117, 49, 54] then some 6 else if x = [105, 51, 50] then some 7 else if x = [117, 51, 50] then some 8 else none
abbrev A (α : Type) := Except F (α × Sr)
def nd (o : Int) (l : List Ex) : Ex := .mk o 0 ⟨#[]⟩ l
abbrev P := Sr → A Ex
/-- Where nothing may stand, so deep it lies. -/
def ded : P := fun g => if g.tk.k = 0 then .error (1000, g.tk.a) else .error (1001, g.tk.a)
/-- Behind an operand of level k; q reads what is tighter. -/
def more (s : ByteArray) (k : Nat) (q : P) : Nat → Ex → P
  | 0, _, g => .error (ends g.tk)
  | f + 1, l, g => match opOf g.tk (lvs.getD k []) with
    | none => .ok (l, g)
    | some o => match adv s g.a g.r with
      | .error e => .error e
      | .ok g1 => match q g1 with
        | .error e => .error e
        | .ok (r, g2) => more s k q f (nd o [l, r]) g2
/-- The j tightest levels, over what has a sign or none. -/
def lev (s : ByteArray) (q : P) : Nat → P
  | 0 => q
  | j + 1 => fun g => match lev s q j g with
    | .error e => .error e
    | .ok (l, g1) => more s (10 - j) (lev s q j) (2 * s.size + 2) l g1
/-- An if; S: what has a sign, C: an if that lies deeper. -/
def chc (s : ByteArray) (S C : P) : P := fun g => match lev s S 11 g with
  | .error e => .error e
  | .ok (t, g1) => if is g1.tk [63] = true then match adv s g1.a g1.r with
      | .error e => .error e
      | .ok g2 => match C g2 with
        | .error e => .error e
        | .ok (a, g3) => match tak s [58] g3 with
          | .error e => .error e
          | .ok g4 => match C g4 with
            | .error e => .error e
            | .ok (b, g5) => .ok (nd 31 [t, a, b], g5)
    else .ok (t, g1)
def btw (s : ByteArray) (C : P) (o c : List UInt8) : P := fun g => match tak s o g with
  | .error e => .error e
  | .ok g1 => match C g1 with
    | .error e => .error e
    | .ok (x, g2) => match tak s c g2 with
      | .error e => .error e
      | .ok g3 => .ok (x, g3)
/-- What stands behind a word. -/
def prt (s : ByteArray) (C : P) : Nat → Ex → P
  | 0, _, g => .error (ends g.tk)
  | f + 1, x, g => if is g.tk [46] = true then match adv s g.a g.r with
      | .error e => .error e
      | .ok g1 => if g1.tk.k = 3 then match adv s g1.a g1.r with
          | .error e => .error e
          | .ok g2 => prt s C f (.mk 7 0 g1.tk.t [x]) g2
        else .error (ends g1.tk)
    else if is g.tk [91] = true then match btw s C [91] [93] g with
      | .error e => .error e
      | .ok (y, g1) => prt s C f (nd 8 [x, y]) g1
    else .ok (x, g)
/-- What a name says. -/
def nmd (s : ByteArray) (C : P) (t : ByteArray) : P := fun g1 => match wordOp t.data.toList with
  | some o => .ok (nd o [], g1)
  | none => match callOf t.data.toList with
    | some c => if is g1.tk [40] = true then match btw s C [40] [41] g1 with
        | .error e => .error e
        | .ok (x, g2) => .ok (.mk 9 c ⟨#[]⟩ [x], g2)
      else .ok (.mk 6 0 t [], g1)
    | none => .ok (.mk 6 0 t [], g1)
def wor (s : ByteArray) (C : P) : P := fun g => if g.tk.k = 1 then match adv s g.a g.r with
    | .error e => .error e
    | .ok g1 => .ok (.mk 4 g.tk.n ⟨#[]⟩ [], g1)
  else if g.tk.k = 2 then match adv s g.a g.r with
    | .error e => .error e
    | .ok g1 => .ok (.mk 5 0 g.tk.t [], g1)
  else if g.tk.k = 3 then match adv s g.a g.r with
    | .error e => .error e
    | .ok g1 => nmd s C g.tk.t g1
  else btw s C [40] [41] g
def par (s : ByteArray) (C : P) : P := fun g => match wor s C g with
  | .error e => .error e
  | .ok (x, g1) => prt s C (2 * s.size + 2) x g1
/-- What has a sign or none, where it may still stand; S, C: what lies deeper. -/
def sgd (s : ByteArray) (S C : P) : P := fun g => if is g.tk [45] = true then match adv s g.a g.r with
    | .error e => .error e
    | .ok g1 => match S g1 with
      | .error e => .error e
      | .ok (x, g2) => .ok (nd 10 [x], g2)
  else if is g.tk [33] = true then match adv s g.a g.r with
    | .error e => .error e
    | .ok g1 => match S g1 with
      | .error e => .error e
      | .ok (x, g2) => .ok (nd 11 [x], g2)
  else par s C g
/-- What has a sign, and an if, where m levels of nesting are left. -/
def lv2 (s : ByteArray) : Nat → P × P
  | 0 => (ded, chc s ded ded)
  | m + 1 => (sgd s (lv2 s m).1 (lv2 s m).2, chc s (sgd s (lv2 s m).1 (lv2 s m).2) (lv2 s m).2)
/-- What Parse answers. -/
def prs (s : ByteArray) : Except F Ex := match adv s 0 0 with
  | .error e => .error e
  | .ok g => match (lv2 s 32).2 g with
    | .error e => .error e
    | .ok (x, g1) => if g1.tk.k = 0 then .ok x else .error (ends g1.tk)
end Go.Proofs.YthjbknncbhkinaaGreatDoor.EPure

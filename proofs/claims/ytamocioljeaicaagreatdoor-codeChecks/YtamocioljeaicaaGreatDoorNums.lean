/- The plain texts of numbers: what Parse makes of them, and back. -/
import Derived.Test.YtamocioljeaicaaGreatDoorForm
import Derived.Lib.ItoaMem
namespace Go.Proofs.YtamocioljeaicaaGreatDoor.Nums
set_option linter.unusedVariables false
open Go.RowKit Go.Proofs.YtamocioljeaicaaGreatDoor.Sums

/-! ### What Parse answers -/
def bl (l : List UInt8) : Bool := l.head? == some 45
def dl (l : List UInt8) : List UInt8 := if bl l then l.tail else l
def good (l : List UInt8) : Bool := (l == [48]) || posForm (dl l)
def pval (l : List UInt8) : Int := sg (bl l) (val (dl l) : Nat)
def pn (b : Bool) (l : List UInt8) : Int := if posForm l then num (sg b (val l : Nat)) else 0
def pe (b : Bool) (l : List UInt8) : Int := if posForm l then err (sg b (val l : Nat)) else 104
theorem pn_bad {b : Bool} {l : List UInt8} (h : posForm l = false) : pn b l = 0 := by rw [pn, h]; rfl
theorem pe_bad {b : Bool} {l : List UInt8} (h : posForm l = false) : pe b l = 104 := by rw [pe, h]; rfl
theorem pn_good {b : Bool} {l : List UInt8} (h : posForm l = true) : pn b l = num (sg b (val l : Nat)) := by rw [pn, if_pos h]
theorem pe_good {b : Bool} {l : List UInt8} (h : posForm l = true) : pe b l = err (sg b (val l : Nat)) := by rw [pe, if_pos h]
def pnum (l : List UInt8) : Int := if good l then num (pval l) else 0
def perr (l : List UInt8) : Int := if good l then err (pval l) else 104
theorem bs_tail (s : ByteArray) : bs (s.extract 1 s.size) = (bs s).tail := by
  unfold bs
  rw [← List.drop_one, ByteArray.data_extract, Array.toList_extract]
  simp only [List.extract_eq_take_drop]
  rw [List.take_of_length_le]
  rw [List.length_drop, Array.length_toList]
  exact Nat.le_refl _
theorem bl_of {s : ByteArray} (h0 : 0 < s.size) : bl (bs s) = decide (s[0].toNat = 45) := by
  have e := bs_get s 0 h0
  have hl := bs_length s
  match h : bs s with
  | [] => rw [h] at hl; simp at hl; omega
  | c :: r =>
    have e2 : s[0] = c := by rw [e]; simp [h]
    rw [e2]
    simp only [bl, List.head?_cons]
    by_cases hc : c.toNat = 45
    · have : c = 45 := UInt8.toNat_inj.mp hc
      subst this
      rfl
    · have : c ≠ 45 := fun h => hc (by rw [h]; rfl)
      simp [hc, this]
theorem long_out {l : List UInt8} (b : Bool) (hp : posForm l = true) (hl : 19 < l.length) : sg b (val l : Nat) < -9223372036854775808 ∨ 9223372036854775807 < sg b (val l : Nat) := by
  have h1 := val_ge l hp
  have h2 := Nat.pow_le_pow_right (show 0 < 10 by omega) (show 19 ≤ l.length - 1 by omega)
  cases b
  · rw [sg_false]; omega
  · rw [sg_true]; omega
theorem nought_of {s : ByteArray} (h : bs s = [48]) : s = ⟨#[48]⟩ := by
  apply ByteArray.ext
  apply Array.ext'
  exact h
theorem val_snoc (l : List UInt8) (c : UInt8) : val (l ++ [c]) = val l * 10 + (c.toNat - 48) := by
  rw [val, List.foldl_append]; rfl
theorem ofNat_toNat {n : Nat} (h : n < 256) : (UInt8.ofNat n).toNat = n := by
  rw [UInt8.toNat_ofNat']; exact Nat.mod_eq_of_lt h
theorem val_digits (N : Nat) : val (Lib.decDigits N) = N := by
  induction N using Nat.strongRecOn with
  | _ N ih =>
    by_cases h : N < 10
    · rw [Lib.decDigits_one h, show [UInt8.ofNat (48 + N)] = [] ++ [UInt8.ofNat (48 + N)] from rfl, val_snoc, ofNat_toNat (by omega), val_nil]
      omega
    · rw [Lib.decDigits, dif_neg h, val_snoc, ih (N / 10) (by omega), ofNat_toNat (by omega)]
      omega
theorem posForm_snoc {l : List UInt8} {c : UInt8} (h : posForm l = true) (hc : isDig c = true) : posForm (l ++ [c]) = true := by
  match l, h with
  | d :: r, h =>
    simp only [posForm, Bool.and_eq_true] at h
    have e : ((d :: r) ++ [c]).all isDig = true := by
      rw [List.all_append, h.2]
      simp [hc]
    show ((d.toNat != 48) && ((d :: r) ++ [c]).all isDig) = true
    rw [h.1, e]
    rfl
theorem posForm_digits {N : Nat} (hN : 0 < N) : posForm (Lib.decDigits N) = true := by
  induction N using Nat.strongRecOn with
  | _ N ih =>
    by_cases h : N < 10
    · rw [Lib.decDigits_one h]
      have e : (UInt8.ofNat (48 + N)).toNat = 48 + N := ofNat_toNat (by omega)
      simp only [posForm, List.all_cons, List.all_nil, isDig, e]
      simp; omega
    · rw [Lib.decDigits, dif_neg h]
      refine posForm_snoc (ih (N / 10) (by omega) (by omega)) ?_
      have e : (UInt8.ofNat (48 + N % 10)).toNat = 48 + N % 10 := ofNat_toNat (by omega)
      simp only [isDig, e]
      simp; omega
theorem ofNat_dig {c : UInt8} (h : isDig c = true) {n : Nat} (hn : n = c.toNat - 48) : UInt8.ofNat (48 + n) = c := by
  have hc := isDig_le h
  apply UInt8.toNat_inj.mp
  rw [ofNat_toNat (by omega)]
  omega
/-- One number has one text. -/
theorem digits_val (l : List UInt8) (h : posForm l = true) : Lib.decDigits (val l) = l := by
  induction hn : l.length generalizing l with
  | zero => rw [List.eq_nil_of_length_eq_zero hn] at h; cases h
  | succ n ih0 =>
    obtain ⟨l, c, rfl⟩ : ∃ l' c, l = l' ++ [c] := by
      rcases List.eq_nil_or_concat l with h0 | ⟨l', c, h0⟩
      · rw [h0] at hn; cases hn
      · exact ⟨l', c, by rw [h0, List.concat_eq_append]⟩
    have ih : posForm l = true → Lib.decDigits (val l) = l := fun h => ih0 l h (by simpa using hn)
    clear hn ih0
    have hall := posForm_all h
    rw [List.all_append, Bool.and_eq_true] at hall
    have hc : isDig c = true := by simpa using hall.2
    have hd := isDig_le hc
    rw [val_snoc]
    match l, h, ih, hall with
    | [], h, _, _ =>
      rw [val_nil, Nat.zero_mul, Nat.zero_add, Lib.decDigits_one (by omega), ofNat_dig hc rfl]
      rfl
    | d :: r, h, ih, hall =>
      have hp : posForm (d :: r) = true := by
        simp only [posForm, List.cons_append, Bool.and_eq_true] at h ⊢
        exact ⟨h.1, hall.1⟩
      have hv : 1 ≤ val (d :: r) := Nat.le_trans (Nat.one_le_pow _ _ (by decide)) (val_ge _ hp)
      rw [Lib.decDigits, dif_neg (by omega), show (val (d :: r) * 10 + (c.toNat - 48)) / 10 = val (d :: r) by omega, ih hp, ofNat_dig hc (by omega)]
theorem bs_mk (l : List UInt8) : bs ⟨l.toArray⟩ = l := rfl
theorem head_digits {N : Nat} (hN : 0 < N) : bl (Lib.decDigits N) = false := by
  have hp := posForm_digits hN
  match h : Lib.decDigits N, hp with
  | c :: r, hp =>
    have hc := isDig_le (List.all_eq_true.mp (posForm_all hp) c (by simp))
    have : c ≠ 45 := fun e => by subst e; exact absurd hc.1 (by decide)
    simp [bl, this]
theorem good_itoa (a : Int) : good (Lib.itoa a) = true ∧ pval (Lib.itoa a) = a := by
  by_cases h : a < 0
  · obtain ⟨u, hu, rfl⟩ : ∃ u : Nat, 1 ≤ u ∧ a = -(u : Int) := ⟨a.natAbs, by omega, by omega⟩
    rw [Lib.itoa_neg u hu]
    have e1 : bl (45 :: Lib.decDigits u) = true := rfl
    have e2 : dl (45 :: Lib.decDigits u) = Lib.decDigits u := by rw [dl, if_pos e1]; rfl
    refine ⟨?_, ?_⟩
    · rw [good, e2, posForm_digits (by omega), Bool.or_true]
    · rw [pval, e1, e2, val_digits, sg_true]
  · obtain ⟨u, rfl⟩ : ∃ u : Nat, a = (u : Int) := ⟨a.natAbs, by omega⟩
    rw [Lib.itoa_nonneg u]
    by_cases hu : u = 0
    · subst hu
      rw [Lib.decDigits_one (by omega)]
      exact ⟨rfl, rfl⟩
    · have e1 := head_digits (N := u) (by omega)
      have e2 : dl (Lib.decDigits u) = Lib.decDigits u := by rw [dl, if_neg (by rw [e1]; decide)]
      refine ⟨?_, ?_⟩
      · rw [good, e2, posForm_digits (by omega), Bool.or_true]
      · rw [pval, e1, e2, val_digits, sg_false]
theorem parse_itoa (a : Int) (h0 : -9223372036854775808 ≤ a) (h1 : a ≤ 9223372036854775807) : pnum (Lib.itoa a) = a ∧ perr (Lib.itoa a) = 0 := by
  obtain ⟨g, v⟩ := good_itoa a
  rw [pnum, perr, if_pos g, if_pos g, v]
  exact ⟨num_in h0 h1, err_in h0 h1⟩
theorem itoa_parse (l : List UInt8) (h : perr l = 0) : Lib.itoa (pnum l) = l := by
  have g : good l = true := by
    cases hg : good l
    · rw [perr, hg] at h; simp at h
    · rfl
  rw [perr, if_pos g] at h
  have hr := err_zero h
  rw [pnum, if_pos g, hr.2.2]
  rw [good, Bool.or_eq_true] at g
  rcases g with g | g
  · have : l = [48] := by simpa using g
    subst this
    have e : pval [48] = ((0 : Nat) : Int) := rfl
    rw [e, Lib.itoa_nonneg, Lib.decDigits_one (by omega)]
    rfl
  · have hv : 1 ≤ val (dl l) := Nat.le_trans (Nat.one_le_pow _ _ (by decide)) (val_ge _ g)
    cases hb : bl l
    · have e2 : dl l = l := by rw [dl, if_neg (by rw [hb]; decide)]
      rw [e2] at g
      rw [pval, hb, sg_false, Lib.itoa_nonneg, e2, digits_val l g]
    · have e2 : dl l = l.tail := by rw [dl, if_pos hb]
      rw [pval, hb, sg_true, Lib.itoa_neg _ hv, digits_val _ g, e2]
      match l, hb with
      | c :: r, hb =>
        have : c = 45 := by simpa [bl] using hb
        subst this
        rfl
theorem pnum_range (l : List UInt8) : -9223372036854775808 ≤ pnum l ∧ pnum l ≤ 9223372036854775807 := by
  unfold pnum
  split
  · exact ⟨num_ge _, num_le _⟩
  · omega
end Go.Proofs.YtamocioljeaicaaGreatDoor.Nums

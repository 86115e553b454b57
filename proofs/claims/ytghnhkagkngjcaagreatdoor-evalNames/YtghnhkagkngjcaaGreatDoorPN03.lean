import Derived.Lib.ItoaMem
import Derived.Test.YtghnhkagkngjcaaGreatDoorPN02
set_option linter.unusedVariables false
namespace Go.Proofs.YtghnhkagkngjcaaGreatDoor.Nums
open Go.RowKit Sums
/-! ### What Parse answers -/
def bl (l : List UInt8) : Bool := l.head? == some 45
def dl (l : List UInt8) : List UInt8 := if bl l then l.tail else l
def good (l : List UInt8) : Bool := (l == [48]) || posForm (dl l)
def pval (l : List UInt8) : Int := sg (bl l) (val (dl l) : Nat)
def pn (b : Bool) (l : List UInt8) : Int := if posForm l then num (sg b (val l : Nat)) else 0
def pe (b : Bool) (l : List UInt8) : Int := if posForm l then err (sg b (val l : Nat)) else 104
theorem pn_bad {b : Bool} {l : List UInt8} (h : posForm l = false) : pn b l = 0 := by rw [pn, h]; rfl
theorem pe_bad {b : Bool} {l : List UInt8} (h : posForm l = false) : pe b l = 104 := by rw [pe, h]; rfl
theorem pn_good {b : Bool} {l : List UInt8} (h : posForm l = true) : pn b l = num (sg b (val l : Nat)) := by rw [pn, if_pos h]
theorem pe_good {b : Bool} {l : List UInt8} (h : posForm l = true) : pe b l = err (sg b (val l : Nat)) := by rw [pe, if_pos h]
def pnum (l : List UInt8) : Int := if good l then num (pval l) else 0
def perr (l : List UInt8) : Int := if good l then err (pval l) else 104
theorem bs_tail (s : ByteArray) : bs (s.extract 1 s.size) = (bs s).tail := by
 unfold bs
 rw [← List.drop_one, ByteArray.data_extract, Array.toList_extract]
 simp only [List.extract_eq_take_drop]
 rw [List.take_of_length_le]
 rw [List.length_drop, Array.length_toList]
 exact Nat.le_refl _
theorem bl_of {s : ByteArray} (h0 : 0 < s.size) : bl (bs s) = decide (s[0].toNat = 45) := by
 have e := bs_get s 0 h0
 have hl := bs_length s
 match h : bs s with
 | [] => rw [h] at hl; simp at hl; omega
 | c :: r =>
  have e2 : s[0] = c := by rw [e]; simp [h]
  rw [e2]
  simp only [bl, List.head?_cons]
  by_cases hc : c.toNat = 45
  ·have : c = 45 := UInt8.toNat_inj.mp hc
   subst this
   rfl
  ·have : c ≠ 45 := fun h => hc (by rw [h]; rfl)
   simp [hc, this]
theorem long_out {l : List UInt8} (b : Bool) (hp : posForm l = true) (hl : 19 < l.length) : sg b (val l : Nat) < -9223372036854775808 ∨ 9223372036854775807 < sg b (val l : Nat) := by
 have h1 := val_ge l hp
 have h2 := Nat.pow_le_pow_right (show 0 < 10 by omega) (show 19 ≤ l.length - 1 by omega)
 cases b
 ·rw [sg_false]; omega
 ·rw [sg_true]; omega
theorem nought_of {s : ByteArray} (h : bs s = [48]) : s = ⟨#[48]⟩ := by
 apply ByteArray.ext
 apply Array.ext'
 exact h
theorem pnum_range (l : List UInt8) : -9223372036854775808 ≤ pnum l ∧ pnum l ≤ 9223372036854775807 := by
 unfold pnum
 split
 ·exact ⟨num_ge _, num_le _⟩
 ·omega
end Go.Proofs.YtghnhkagkngjcaaGreatDoor.Nums

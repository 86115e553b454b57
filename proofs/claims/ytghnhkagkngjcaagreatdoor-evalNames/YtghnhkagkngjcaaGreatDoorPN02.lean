import Derived.Laws.Bits64
import Derived.WalkKit
set_option linter.unusedVariables false
namespace Go.Proofs.YtghnhkagkngjcaaGreatDoor.Sums
open Go Go.RowKit
def inR (x : Int) : Bool := decide (-9223372036854775808 ≤ x) && decide (x ≤ 9223372036854775807)
def num (x : Int) : Int := if inR x then x else 0
def err (x : Int) : Int := if inR x then 0 else 100
theorem num_in {x : Int} (h0 : -9223372036854775808 ≤ x) (h1 : x ≤ 9223372036854775807) : num x = x := by
 unfold num inR; simp [h0, h1]
theorem err_in {x : Int} (h0 : -9223372036854775808 ≤ x) (h1 : x ≤ 9223372036854775807) : err x = 0 := by
 unfold err inR; simp [h0, h1]
theorem num_out {x : Int} (h : x < -9223372036854775808 ∨ 9223372036854775807 < x) : num x = 0 := by
 unfold num; rw [if_neg]; unfold inR; simp; omega
theorem err_out {x : Int} (h : x < -9223372036854775808 ∨ 9223372036854775807 < x) : err x = 100 := by
 unfold err; rw [if_neg]; unfold inR; simp; omega
theorem num_ge (x : Int) : -9223372036854775808 ≤ num x := by
 unfold num inR; split <;> simp_all
theorem num_le (x : Int) : num x ≤ 9223372036854775807 := by
 unfold num inR; split <;> simp_all
def sg (below : Bool) (m : Int) : Int := if below then -m else m
theorem sg_true (m : Int) : sg true m = -m := rfl
theorem sg_false (m : Int) : sg false m = m := rfl
/-! ### Returned values that are equal by their numbers -/
theorem ret1 {k : IntKind} {x y : Int} (h : x = y) : Ending.returned (.int k x) = Ending.returned (.int k y) := by rw [h]
theorem ret2 {x y e f : Int} (h : x = y) (g : e = f) : Ending.returned (.tuple #[.int .i64 x, .int .i64 e]) = Ending.returned (.tuple #[.int .i64 y, .int .i64 f]) := by rw [h, g]
/-! ### Signs of what exclusive or and and make -/
theorem wrap_toNat (v : BitVec 64) : IntKind.i64.wrap (v.toNat : Int) = v.toInt := by
 have h := v.isLt
 rw [BitVec.toInt_eq_toNat_cond]
 simp only [IntKind.wrap, IntKind.bits, IntKind.signed, Bool.true_and, decide_eq_true_eq, Nat.reduceSub, Int.reducePow, ge_iff_le]
 split <;> split <;> omega
theorem msb_ofInt {x : Int} (h0 : -9223372036854775808 ≤ x) (h1 : x ≤ 9223372036854775807) : (BitVec.ofInt 64 x).msb = decide (x < 0) := by
 rw [BitVec.msb_eq_toInt]
 congr 1
 rw [BitVec.toInt_ofInt, Int.bmod_eq_of_le (by omega) (by omega)]
theorem bits_xor_toInt (x y : Int) : bits .xor .i64 x y = (BitVec.ofInt 64 x ^^^ BitVec.ofInt 64 y).toInt := wrap_toNat _
theorem bits_and_toInt (x y : Int) : bits .and .i64 x y = (BitVec.ofInt 64 x &&& BitVec.ofInt 64 y).toInt := wrap_toNat _
theorem both_below {x y z u : Int} (hx0 : -9223372036854775808 ≤ x) (hx1 : x ≤ 9223372036854775807) (hy0 : -9223372036854775808 ≤ y) (hy1 : y ≤ 9223372036854775807)
  (hz0 : -9223372036854775808 ≤ z) (hz1 : z ≤ 9223372036854775807) (hu0 : -9223372036854775808 ≤ u) (hu1 : u ≤ 9223372036854775807) :
  bits .and .i64 (bits .xor .i64 x y) (bits .xor .i64 z u) < 0 ↔ (¬ (x < 0 ↔ y < 0) ∧ ¬ (z < 0 ↔ u < 0)) := by
 rw [bits_and_toInt, bits_xor_toInt, bits_xor_toInt, BitVec.ofInt_toInt, BitVec.ofInt_toInt]
 have e : ∀ v : BitVec 64, v.toInt < 0 ↔ v.msb = true := fun v => by rw [BitVec.msb_eq_toInt]; simp
 rw [e, BitVec.msb_and, BitVec.msb_xor, BitVec.msb_xor, msb_ofInt hx0 hx1, msb_ofInt hy0 hy1, msb_ofInt hz0 hz1, msb_ofInt hu0 hu1]
 by_cases c1 : x < 0 <;> by_cases c2 : y < 0 <;> by_cases c3 : z < 0 <;> by_cases c4 : u < 0 <;> simp [c1, c2, c3, c4]
theorem wrap64_ge (x : Int) : -9223372036854775808 ≤ wrap64 x := by unfold wrap64; omega
theorem wrap64_le (x : Int) : wrap64 x ≤ 9223372036854775807 := by unfold wrap64; omega
theorem add_test {a b : Int} (a0 : -9223372036854775808 ≤ a) (a1 : a ≤ 9223372036854775807) (b0 : -9223372036854775808 ≤ b) (b1 : b ≤ 9223372036854775807) :
  bits .and .i64 (bits .xor .i64 a (wrap64 (a + b))) (bits .xor .i64 b (wrap64 (a + b))) < 0 ↔ (a + b < -9223372036854775808 ∨ 9223372036854775807 < a + b) := by
 rw [both_below a0 a1 (wrap64_ge _) (wrap64_le _) b0 b1 (wrap64_ge _) (wrap64_le _)]
 unfold wrap64
 omega
theorem sub_test {a b : Int} (a0 : -9223372036854775808 ≤ a) (a1 : a ≤ 9223372036854775807) (b0 : -9223372036854775808 ≤ b) (b1 : b ≤ 9223372036854775807) :
  bits .and .i64 (bits .xor .i64 a b) (bits .xor .i64 a (wrap64 (a - b))) < 0 ↔ (a - b < -9223372036854775808 ∨ 9223372036854775807 < a - b) := by
 rw [both_below a0 a1 b0 b1 a0 a1 (wrap64_ge _) (wrap64_le _)]
 unfold wrap64
 omega
theorem wrap64_in' {x : Int} (h : ¬ (x < -9223372036854775808 ∨ 9223372036854775807 < x)) : wrap64 x = x := by unfold wrap64; omega
end Go.Proofs.YtghnhkagkngjcaaGreatDoor.Sums
namespace Go.Proofs.YtghnhkagkngjcaaGreatDoor.Sums
open Go Go.RowKit
def isDig (c : UInt8) : Bool := decide (48 ≤ c.toNat) && decide (c.toNat ≤ 57)
def posForm (l : List UInt8) : Bool := match l with
 | [] => false
 | c :: r => (c.toNat != 48) && (c :: r).all isDig
def val (l : List UInt8) : Nat := l.foldl (fun n c => n * 10 + (c.toNat - 48)) 0
def bs (s : ByteArray) : List UInt8 := s.data.toList
theorem bs_length (s : ByteArray) : (bs s).length = s.size := Array.length_toList
theorem bs_get (s : ByteArray) (j : Nat) (h : j < s.size) : s[j] = (bs s)[j]'(by rw [bs_length]; exact h) := by
 unfold bs
 rw [Array.getElem_toList]
 rfl
theorem val_take (l : List UInt8) (n : Nat) (h : n < l.length) : val (l.take (n + 1)) = val (l.take n) * 10 + (l[n].toNat - 48) := by
 rw [List.take_succ_eq_append_getElem h, val, List.foldl_append]
 rfl
theorem isDig_le {c : UInt8} (h : isDig c = true) : 48 ≤ c.toNat ∧ c.toNat ≤ 57 := by
 simpa [isDig] using h
theorem val_append (l r : List UInt8) : val (l ++ r) = val l * 10 ^ r.length + val r := by
 have g : ∀ (r : List UInt8) (x : Nat), r.foldl (fun n c => n * 10 + (c.toNat - 48)) x = x * 10 ^ r.length + r.foldl (fun n c => n * 10 + (c.toNat - 48)) 0 := by
  intro r
  induction r with
  | nil => intro x; simp
  | cons c r ih =>
   intro x
   rw [List.foldl_cons, List.foldl_cons, ih, ih (0 * 10 + (c.toNat - 48)), List.length_cons, Nat.pow_succ]
   grind
 rw [val, List.foldl_append, g]
 rfl
theorem val_lt (l : List UInt8) (h : l.all isDig = true) : val l < 10 ^ l.length := by
 induction l with
 | nil => simp [val]
 | cons c r ih =>
  rw [List.all_cons, Bool.and_eq_true] at h
  have hc := isDig_le h.1
  have := ih h.2
  have e : val (c :: r) = val [c] * 10 ^ r.length + val r := val_append [c] r
  have e1 : val [c] = c.toNat - 48 := by simp [val]
  have hm : (c.toNat - 48) * 10 ^ r.length ≤ 9 * 10 ^ r.length := Nat.mul_le_mul_right _ (by omega)
  rw [e, e1, List.length_cons, Nat.pow_succ]
  omega
theorem val_ge (l : List UInt8) (h : posForm l = true) : 10 ^ (l.length - 1) ≤ val l := by
 match l, h with
 | c :: r, h =>
  simp only [posForm, Bool.and_eq_true, bne_iff_ne, ne_eq, List.all_cons] at h
  have hc := isDig_le h.2.1
  have e : val (c :: r) = val [c] * 10 ^ r.length + val r := val_append [c] r
  have e1 : val [c] = c.toNat - 48 := by simp [val]
  have hm : 1 * 10 ^ r.length ≤ (c.toNat - 48) * 10 ^ r.length := Nat.mul_le_mul_right _ (by omega)
  rw [e, e1, List.length_cons, Nat.add_sub_cancel]
  omega
theorem posForm_all {l : List UInt8} (h : posForm l = true) : l.all isDig = true := by
 match l, h with
 | c :: r, h =>
  simp only [posForm, Bool.and_eq_true] at h
  exact h.2
theorem posForm_of {l : List UInt8} (h0 : 0 < l.length) (hz : l[0].toNat ≠ 48) (h : ∀ j (hj : j < l.length), isDig l[j] = true) : posForm l = true := by
 match l, h0 with
 | c :: r, _ =>
  simp only [posForm, Bool.and_eq_true, bne_iff_ne, ne_eq]
  refine ⟨hz, ?_⟩
  rw [List.all_eq_true]
  intro x hx
  obtain ⟨j, hj, rfl⟩ := List.mem_iff_getElem.mp hx
  exact h j hj
theorem posForm_not {l : List UInt8} {j : Nat} (hj : j < l.length) (h : isDig l[j] = false) : posForm l = false := by
 cases c : posForm l
 ·rfl
 ·have := List.all_eq_true.mp (posForm_all c) l[j] (List.getElem_mem hj)
  rw [h] at this
  exact absurd this (by decide)
theorem posForm_zero {l : List UInt8} (h0 : 0 < l.length) (hz : l[0].toNat = 48) : posForm l = false := by
 match l, h0 with
 | c :: r, _ =>
  simp only [posForm]
  have : (c.toNat != 48) = false := by simpa using hz
  rw [this, Bool.false_and]
end Go.Proofs.YtghnhkagkngjcaaGreatDoor.Sums

/- The plain numbers of layer 1: what each call answers, with no Go in sight. -/
import Derived.WalkKit
import Derived.Laws.Bits64
namespace Go.Proofs.YthjbknncbhkinaaGreatDoor.Sums
open Go Go.RowKit

/-- x lies in the range of an int. -/
def inR (x : Int) : Bool := decide (-9223372036854775808 ≤ x) && decide (x ≤ 9223372036854775807)
/-- The number that is answered beside 'err x'. -/
def num (x : Int) : Int := if inR x then x else 0
def err (x : Int) : Int := if inR x then 0 else 100
theorem num_in {x : Int} (h0 : -9223372036854775808 ≤ x) (h1 : x ≤ 9223372036854775807) : num x = x := by
  unfold num inR; simp [h0, h1]
theorem err_in {x : Int} (h0 : -9223372036854775808 ≤ x) (h1 : x ≤ 9223372036854775807) : err x = 0 := by
  unfold err inR; simp [h0, h1]
theorem num_out {x : Int} (h : x < -9223372036854775808 ∨ 9223372036854775807 < x) : num x = 0 := by
  unfold num; rw [if_neg]; unfold inR; simp; omega
theorem err_out {x : Int} (h : x < -9223372036854775808 ∨ 9223372036854775807 < x) : err x = 100 := by
  unfold err; rw [if_neg]; unfold inR; simp; omega
theorem num_ge (x : Int) : -9223372036854775808 ≤ num x := by
  unfold num inR; split <;> simp_all
theorem num_le (x : Int) : num x ≤ 9223372036854775807 := by
  unfold num inR; split <;> simp_all
theorem err_zero {x : Int} (h : err x = 0) : -9223372036854775808 ≤ x ∧ x ≤ 9223372036854775807 ∧ num x = x := by
  by_cases c : -9223372036854775808 ≤ x ∧ x ≤ 9223372036854775807
  · exact ⟨c.1, c.2, num_in c.1 c.2⟩
  · rw [err_out (by omega)] at h; omega
theorem err_or (x : Int) : err x = 0 ∨ err x = 100 := by
  unfold err; split <;> simp
/-- A size with a sign. -/
def sg (below : Bool) (m : Int) : Int := if below then -m else m
theorem sg_true (m : Int) : sg true m = -m := rfl
theorem sg_false (m : Int) : sg false m = m := rfl

theorem sg_of {c : Bool} {m x : Int} (ht : c = true → -m = x) (hf : c = false → m = x) : sg c m = x := by
  cases c
  · exact hf rfl
  · exact ht rfl

/-! ### Returned values that are equal by their numbers -/
theorem ret1 {k : IntKind} {x y : Int} (h : x = y) : Ending.returned (.int k x) = Ending.returned (.int k y) := by rw [h]
theorem ret2 {x y e f : Int} (h : x = y) (g : e = f) : Ending.returned (.tuple #[.int .i64 x, .int .i64 e]) = Ending.returned (.tuple #[.int .i64 y, .int .i64 f]) := by rw [h, g]

/-! ### Signs of what exclusive or and and make -/
theorem wrap_toNat (v : BitVec 64) : IntKind.i64.wrap (v.toNat : Int) = v.toInt := by
  have h := v.isLt
  rw [BitVec.toInt_eq_toNat_cond]
  simp only [IntKind.wrap, IntKind.bits, IntKind.signed, Bool.true_and, decide_eq_true_eq, Nat.reduceSub, Int.reducePow, ge_iff_le]
  split <;> split <;> omega
theorem msb_ofInt {x : Int} (h0 : -9223372036854775808 ≤ x) (h1 : x ≤ 9223372036854775807) : (BitVec.ofInt 64 x).msb = decide (x < 0) := by
  rw [BitVec.msb_eq_toInt]
  congr 1
  rw [BitVec.toInt_ofInt, Int.bmod_eq_of_le (by omega) (by omega)]
theorem bits_xor_toInt (x y : Int) : bits .xor .i64 x y = (BitVec.ofInt 64 x ^^^ BitVec.ofInt 64 y).toInt := wrap_toNat _
theorem bits_and_toInt (x y : Int) : bits .and .i64 x y = (BitVec.ofInt 64 x &&& BitVec.ofInt 64 y).toInt := wrap_toNat _
/-- 'x ^ y' and 'z ^ u' are both below 0. -/
theorem both_below {x y z u : Int} (hx0 : -9223372036854775808 ≤ x) (hx1 : x ≤ 9223372036854775807) (hy0 : -9223372036854775808 ≤ y) (hy1 : y ≤ 9223372036854775807)
    (hz0 : -9223372036854775808 ≤ z) (hz1 : z ≤ 9223372036854775807) (hu0 : -9223372036854775808 ≤ u) (hu1 : u ≤ 9223372036854775807) :
    bits .and .i64 (bits .xor .i64 x y) (bits .xor .i64 z u) < 0 ↔ (¬ (x < 0 ↔ y < 0) ∧ ¬ (z < 0 ↔ u < 0)) := by
  rw [bits_and_toInt, bits_xor_toInt, bits_xor_toInt, BitVec.ofInt_toInt, BitVec.ofInt_toInt]
  have e : ∀ v : BitVec 64, v.toInt < 0 ↔ v.msb = true := fun v => by rw [BitVec.msb_eq_toInt]; simp
  rw [e, BitVec.msb_and, BitVec.msb_xor, BitVec.msb_xor, msb_ofInt hx0 hx1, msb_ofInt hy0 hy1, msb_ofInt hz0 hz1, msb_ofInt hu0 hu1]
  by_cases c1 : x < 0 <;> by_cases c2 : y < 0 <;> by_cases c3 : z < 0 <;> by_cases c4 : u < 0 <;> simp [c1, c2, c3, c4]
theorem wrap64_ge (x : Int) : -9223372036854775808 ≤ wrap64 x := by unfold wrap64; omega
theorem wrap64_le (x : Int) : wrap64 x ≤ 9223372036854775807 := by unfold wrap64; omega
/-- The test of 'Add'. -/
theorem add_test {a b : Int} (a0 : -9223372036854775808 ≤ a) (a1 : a ≤ 9223372036854775807) (b0 : -9223372036854775808 ≤ b) (b1 : b ≤ 9223372036854775807) :
    bits .and .i64 (bits .xor .i64 a (wrap64 (a + b))) (bits .xor .i64 b (wrap64 (a + b))) < 0 ↔ (a + b < -9223372036854775808 ∨ 9223372036854775807 < a + b) := by
  rw [both_below a0 a1 (wrap64_ge _) (wrap64_le _) b0 b1 (wrap64_ge _) (wrap64_le _)]
  unfold wrap64
  omega
/-- The test of 'Sub'. -/
theorem sub_test {a b : Int} (a0 : -9223372036854775808 ≤ a) (a1 : a ≤ 9223372036854775807) (b0 : -9223372036854775808 ≤ b) (b1 : b ≤ 9223372036854775807) :
    bits .and .i64 (bits .xor .i64 a b) (bits .xor .i64 a (wrap64 (a - b))) < 0 ↔ (a - b < -9223372036854775808 ∨ 9223372036854775807 < a - b) := by
  rw [both_below a0 a1 b0 b1 a0 a1 (wrap64_ge _) (wrap64_le _)]
  unfold wrap64
  omega
theorem wrap64_in' {x : Int} (h : ¬ (x < -9223372036854775808 ∨ 9223372036854775807 < x)) : wrap64 x = x := by unfold wrap64; omega
end Go.Proofs.YthjbknncbhkinaaGreatDoor.Sums

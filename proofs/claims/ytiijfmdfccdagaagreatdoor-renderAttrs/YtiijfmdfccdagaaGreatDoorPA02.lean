import Derived.Below
import Derived.Laws.Bits64
import Derived.Laws.RangeAny
import Derived.Laws.ResultCell
import Derived.Lib.ItoaMem
import Derived.OpenShut
import Derived.ProofKit
import Derived.Test.YtiijfmdfccdagaaGreatDoorProg
import Derived.WalkKit
import Derived.WalkLawsBesides
import Derived.Test.YtiijfmdfccdagaaGreatDoorPA00
open Go.Proofs.Tryz
set_option linter.unusedVariables false
namespace Go.Proofs.YtiijfmdfccdagaaGreatDoor.UBase
def at' (s : ByteArray) (i : Nat) : Nat := (s.get! i).toNat
def tl (s : ByteArray) (i : Nat) : Bool := decide (i < s.size) && (decide (128 <= at' s i) && decide (at' s i < 192))
def len (s : ByteArray) (i : Nat) : Nat :=
 if at' s i < 128 then 1
 else if 194 <= at' s i /\ at' s i < 224 /\ tl s (i + 1) = true then 2
 else if 224 <= at' s i /\ at' s i < 240 /\ tl s (i + 1) = true /\ tl s (i + 2) = true then
  (if (at' s i = 224 /\ at' s (i + 1) < 160) \/ (at' s i = 237 /\ 160 <= at' s (i + 1)) then 0 else 3)
 else if 240 <= at' s i /\ at' s i < 245 /\ tl s (i + 1) = true /\ tl s (i + 2) = true /\ tl s (i + 3) = true then
  (if (at' s i = 240 /\ at' s (i + 1) < 144) \/ (at' s i = 244 /\ 144 <= at' s (i + 1)) then 0 else 4)
 else 0
def bad (s : ByteArray) (i : Nat) : Option Nat := if i < s.size then (if len s i = 0 then some i else bad s (i + len s i)) else none
 termination_by s.size - i
 decreasing_by omega
def vat (s : ByteArray) : Nat := (bad s 0).getD 0
def verr (s : ByteArray) : Nat := if bad s 0 = none then 0 else 300
def rep (s : ByteArray) (i : Nat) : Bool := decide (at' s i = 239) && (decide (at' s (i + 1) = 191) && decide (at' s (i + 2) = 189))
def let' (c : Nat) : Bool := decide (97 <= c) && decide (c <= 122)
def dig (c : Nat) : Bool := decide (48 <= c) && decide (c <= 57)
def sign (j c : Nat) : Bool := let' c || (dig c || decide (c = j))
def word (s : ByteArray) (j : Nat) : Bool := decide (0 < s.size) && (decide (s.size <= 32) && (let' (at' s 0) && decide (∀ i, i < s.size -> sign j (at' s i) = true)))
theorem at_get (s : ByteArray) (i : Nat) (h : i < s.size) : at' s i = (s[i]'h).toNat := by
 unfold at'
 rw [show s.get! i = s.get! (i + 0) from rfl, get_at s i h]
theorem at_out (s : ByteArray) (i : Nat) (h : ¬ i < s.size) : at' s i = 0 := by
 unfold at'
 simp only [ByteArray.get!]
 have h' := h
 rw [getElem!_neg (c := s.data) (i := i) h']
 rfl
theorem at_lt (s : ByteArray) (i : Nat) : at' s i < 256 := UInt8.toNat_lt _
theorem tl_iff (s : ByteArray) (i : Nat) : tl s i = true ↔ (128 <= at' s i /\ at' s i < 192) := by
 unfold tl
 by_cases h : i < s.size
 ·simp [h]
 ·have := at_out s i h
  simp [h, this]
theorem bad_step {s : ByteArray} {i : Nat} (h : i < s.size) (hl : len s i ≠ 0) : bad s i = bad s (i + len s i) := by
 rw [bad, if_pos h, if_neg hl]
theorem bad_here {s : ByteArray} {i : Nat} (h : i < s.size) (hl : len s i = 0) : bad s i = some i := by
 rw [bad, if_pos h, if_pos hl]
theorem bad_end {s : ByteArray} {i : Nat} (h : ¬ i < s.size) : bad s i = none := by
 rw [bad, if_neg h]
theorem len_parts (s : ByteArray) (i : Nat) :
  (len s i = 0) \/ (len s i = 1 /\ at' s i < 128) \/ (len s i = 2 /\ 194 <= at' s i /\ tl s (i + 1) = true) \/ (len s i = 3 /\ 194 <= at' s i /\ tl s (i + 1) = true /\ tl s (i + 2) = true) \/ (len s i = 4 /\ 194 <= at' s i /\ tl s (i + 1) = true /\ tl s (i + 2) = true /\ tl s (i + 3) = true) := by
 unfold len
 repeat' split
 all_goals first
  | (left; rfl)
  | (right; left; exact ⟨rfl, by omega⟩)
  | (rename_i h; right; right; left; exact ⟨rfl, by omega, h.2.2⟩)
  | (rename_i h _; right; right; right; left; exact ⟨rfl, by omega, h.2.2⟩)
  | (rename_i h _; right; right; right; right; exact ⟨rfl, by omega, h.2.2⟩)
theorem len_in {s : ByteArray} {i : Nat} (h : i < s.size) : i + len s i <= s.size := by
 have t (j : Nat) (hj : tl s j = true) : j < s.size := by unfold tl at hj; simp at hj; exact hj.1
 rcases len_parts s i with e | ⟨e, _⟩ | ⟨e, _, h1⟩ | ⟨e, _, h1, h2⟩ | ⟨e, _, h1, h2, h3⟩
 ·omega
 ·omega
 ·have := t _ h1; omega
 ·have := t _ h2; omega
 ·have := t _ h3; omega
def dec4 (a b c d : Nat) : Nat × Nat :=
 if a < 128 then (a, 1)
 else if a / 32 = 6 /\ b / 64 = 2 then (if 128 <= a % 32 * 64 + b % 64 then (a % 32 * 64 + b % 64, 2) else (65533, 1))
 else if a / 16 = 14 /\ b / 64 = 2 /\ c / 64 = 2 then
  (if 2048 <= a % 16 * 4096 + b % 64 * 64 + c % 64 /\ (a % 16 * 4096 + b % 64 * 64 + c % 64 < 55296 \/ (57344 <= a % 16 * 4096 + b % 64 * 64 + c % 64 /\ a % 16 * 4096 + b % 64 * 64 + c % 64 <= 1114111)) then (a % 16 * 4096 + b % 64 * 64 + c % 64, 3) else (65533, 1))
 else if a / 8 = 30 /\ b / 64 = 2 /\ c / 64 = 2 /\ d / 64 = 2 then
  (if 65536 <= a % 8 * 262144 + b % 64 * 4096 + c % 64 * 64 + d % 64 /\ (a % 8 * 262144 + b % 64 * 4096 + c % 64 * 64 + d % 64 < 55296 \/ (57344 <= a % 8 * 262144 + b % 64 * 4096 + c % 64 * 64 + d % 64 /\ a % 8 * 262144 + b % 64 * 4096 + c % 64 * 64 + d % 64 <= 1114111)) then (a % 8 * 262144 + b % 64 * 4096 + c % 64 * 64 + d % 64, 4) else (65533, 1))
 else (65533, 1)
def len4 (a b c d : Nat) : Nat :=
 if a < 128 then 1
 else if 194 <= a /\ a < 224 /\ (128 <= b /\ b < 192) then 2
 else if 224 <= a /\ a < 240 /\ (128 <= b /\ b < 192) /\ (128 <= c /\ c < 192) then (if (a = 224 /\ b < 160) \/ (a = 237 /\ 160 <= b) then 0 else 3)
 else if 240 <= a /\ a < 245 /\ (128 <= b /\ b < 192) /\ (128 <= c /\ c < 192) /\ (128 <= d /\ d < 192) then (if (a = 240 /\ b < 144) \/ (a = 244 /\ 144 <= b) then 0 else 4)
 else 0
theorem len_eq (s : ByteArray) (i : Nat) : len s i = len4 (at' s i) (at' s (i + 1)) (at' s (i + 2)) (at' s (i + 3)) := by
 simp only [len, len4, tl_iff]
theorem dec_eq (s : ByteArray) (i : Nat) : Utf8.decode s i = dec4 (at' s i) (at' s (i + 1)) (at' s (i + 2)) (at' s (i + 3)) := by
 have k (j : Nat) : (decide (i + j < s.size) && at' s (i + j) / 64 == 2) = decide (at' s (i + j) / 64 = 2) := by
  by_cases h : i + j < s.size
  ·simp [h]; rfl
  ·have := at_out s _ h
   simp [h, this]
 have e (j : Nat) : (s.get! (i + j)).toNat = at' s (i + j) := rfl
 have e0 : (s.get! (i + 0)).toNat = at' s i := rfl
 simp only [Utf8.decode, e0, e, k, dec4, Utf8.runeError, Utf8.valid]
 generalize at' s i = a at *
 generalize at' s (i + 1) = b at *
 generalize at' s (i + 2) = c at *
 generalize at' s (i + 3) = d at *
 clear k e e0
 simp only [Bool.and_eq_true, decide_eq_true_eq, beq_iff_eq, Bool.or_eq_true, and_assoc, ge_iff_le]
 have v (n : Nat) : ((0 <= (n : Int) /\ (n : Int) < 55296) \/ (57344 <= (n : Int) /\ (n : Int) <= 1114111)) ↔ (n < 55296 \/ (57344 <= n /\ n <= 1114111)) := by omega
 simp only [v]
theorem four (a b c d : Nat) (ha : a < 256) (hb : b < 256) (hc : c < 256) (hd : d < 256) :
  (len4 a b c d = 0 ↔ ((dec4 a b c d).1 = 65533 /\ ¬ (a = 239 /\ b = 191 /\ c = 189))) /\ (len4 a b c d ≠ 0 -> (dec4 a b c d).2 = len4 a b c d) /\ ((dec4 a b c d).1 = 10 ↔ a = 10) := by
 by_cases h1 : a < 128
 ·simp [len4, dec4, h1]; omega
 by_cases h2 : a / 32 = 6
 ·by_cases h3 : b / 64 = 2
  ·have e3 : 128 <= b /\ b < 192 := by omega
   have e4 : ¬ (224 <= a) := by omega
   have e5 : ¬ (240 <= a) := by omega
   simp only [len4, dec4, h1, h2, h3, e3, e4, e5, true_and, false_and, if_true, if_false, and_true]
   repeat' split
   all_goals (refine ⟨⟨fun h => ?_, fun h => ?_⟩, fun h => ?_, ⟨fun h => ?_, fun h => ?_⟩⟩ <;> (try dsimp only at *) <;> first | omega | (simp only [true_and]; omega))
  ·have e3 : ¬ (128 <= b /\ b < 192) := by omega
   have e4 : ¬ (a / 16 = 14) := by omega
   have e5 : ¬ (a / 8 = 30) := by omega
   simp only [len4, dec4, h1, h2, h3, e3, e4, e5, true_and, false_and, and_false, if_false]
   (refine ⟨⟨fun h => ?_, fun h => ?_⟩, fun h => ?_, ⟨fun h => ?_, fun h => ?_⟩⟩ <;> (try dsimp only at *) <;> first | omega | (simp only [true_and]; omega))
 have h2' : ¬ (194 <= a /\ a < 224) := by omega
 have h2'' : ¬ (194 <= a /\ a < 224 /\ (128 <= b /\ b < 192)) := by omega
 by_cases h3 : a / 16 = 14
 ·have e5 : ¬ (240 <= a) := by omega
  have e6 : ¬ (a / 8 = 30) := by omega
  have e7 : 224 <= a := by omega
  have e8 : a < 240 := by omega
  by_cases h4 : b / 64 = 2
  ·have e3 : 128 <= b /\ b < 192 := by omega
   by_cases h5 : c / 64 = 2
   ·have e4 : 128 <= c /\ c < 192 := by omega
    simp only [len4, dec4, h1, h2, h2', h3, h4, h5, e3, e4, e5, e6, e7, e8, true_and, false_and, if_true, if_false, and_true]
    repeat' split
    all_goals (refine ⟨⟨fun h => ?_, fun h => ?_⟩, fun h => ?_, ⟨fun h => ?_, fun h => ?_⟩⟩ <;> (try dsimp only at *) <;> first | omega | (simp only [true_and]; omega))
   ·have e4 : ¬ (128 <= c /\ c < 192) := by omega
    simp only [len4, dec4, h1, h2, h2', h3, h4, h5, e3, e4, e5, e6, e7, e8, true_and, false_and, and_false, if_false, and_true]
    (refine ⟨⟨fun h => ?_, fun h => ?_⟩, fun h => ?_, ⟨fun h => ?_, fun h => ?_⟩⟩ <;> (try dsimp only at *) <;> first | omega | (simp only [true_and]; omega))
  ·have e3 : ¬ (128 <= b /\ b < 192) := by omega
   simp only [len4, dec4, h1, h2, h3, h4, e3, e5, e6, e7, e8, true_and, false_and, and_false, if_false]
   (refine ⟨⟨fun h => ?_, fun h => ?_⟩, fun h => ?_, ⟨fun h => ?_, fun h => ?_⟩⟩ <;> (try dsimp only at *) <;> first | omega | (simp only [true_and]; omega))
 have h3' : ¬ (224 <= a /\ a < 240 /\ (128 <= b /\ b < 192) /\ (128 <= c /\ c < 192)) := by omega
 by_cases h4 : a / 8 = 30
 ·have e5 : 240 <= a := by omega
  by_cases h5 : b / 64 = 2 /\ c / 64 = 2 /\ d / 64 = 2
  ·obtain ⟨h6, h7, h8⟩ := h5
   have e3 : 128 <= b /\ b < 192 := by omega
   have e4 : 128 <= c /\ c < 192 := by omega
   have e6 : 128 <= d /\ d < 192 := by omega
   simp only [len4, dec4, h1, h2, h3, h4, h6, h7, h8, e3, e4, e5, e6, true_and, if_true, if_false, and_true]
   repeat' split
   all_goals (refine ⟨⟨fun h => ?_, fun h => ?_⟩, fun h => ?_, ⟨fun h => ?_, fun h => ?_⟩⟩ <;> (try dsimp only at *) <;> first | omega | (simp only [true_and]; omega))
  ·have e3 : ¬ (240 <= a /\ a < 245 /\ (128 <= b /\ b < 192) /\ (128 <= c /\ c < 192) /\ (128 <= d /\ d < 192)) := by omega
   have e4 : ¬ (a / 8 = 30 /\ b / 64 = 2 /\ c / 64 = 2 /\ d / 64 = 2) := fun h => h5 h.2
   simp only [len4, dec4, h1, h2, h2'', h3, h3', e3, e4, false_and, if_false]
   (refine ⟨⟨fun h => ?_, fun h => ?_⟩, fun h => ?_, ⟨fun h => ?_, fun h => ?_⟩⟩ <;> (try dsimp only at *) <;> first | omega | (simp only [true_and]; omega))
 ·have e3 : ¬ (240 <= a /\ a < 245 /\ (128 <= b /\ b < 192) /\ (128 <= c /\ c < 192) /\ (128 <= d /\ d < 192)) := by omega
  simp only [len4, dec4, h1, h2, h2'', h3, h3', h4, e3, false_and, if_false]
  (refine ⟨⟨fun h => ?_, fun h => ?_⟩, fun h => ?_, ⟨fun h => ?_, fun h => ?_⟩⟩ <;> (try dsimp only at *) <;> first | omega | (simp only [true_and]; omega))
theorem dec_len (s : ByteArray) (i : Nat) :
  (len s i = 0 ↔ ((Utf8.decode s i).1 = 65533 /\ rep s i = false)) /\ (len s i ≠ 0 -> (Utf8.decode s i).2 = len s i) /\ ((Utf8.decode s i).1 = 10 ↔ at' s i = 10) := by
 have h := four (at' s i) (at' s (i + 1)) (at' s (i + 2)) (at' s (i + 3)) (at_lt ..) (at_lt ..) (at_lt ..) (at_lt ..)
 rw [<- len_eq, <- dec_eq] at h
 have e : rep s i = false ↔ ¬ (at' s i = 239 /\ at' s (i + 1) = 191 /\ at' s (i + 2) = 189) := by unfold rep; simp
 rw [e]
 exact h
end Go.Proofs.YtiijfmdfccdagaaGreatDoor.UBase
namespace Go.Proofs.YtiijfmdfccdagaaGreatDoor.Sums
open Go Go.RowKit
def inR (x : Int) : Bool := decide (-9223372036854775808 <= x) && decide (x <= 9223372036854775807)
def num (x : Int) : Int := if inR x then x else 0
def err (x : Int) : Int := if inR x then 0 else 100
theorem num_in {x : Int} (h0 : -9223372036854775808 <= x) (h1 : x <= 9223372036854775807) : num x = x := by
 unfold num inR; simp [h0, h1]
theorem err_in {x : Int} (h0 : -9223372036854775808 <= x) (h1 : x <= 9223372036854775807) : err x = 0 := by
 unfold err inR; simp [h0, h1]
theorem num_out {x : Int} (h : x < -9223372036854775808 \/ 9223372036854775807 < x) : num x = 0 := by
 unfold num; rw [if_neg]; unfold inR; simp; omega
theorem err_out {x : Int} (h : x < -9223372036854775808 \/ 9223372036854775807 < x) : err x = 100 := by
 unfold err; rw [if_neg]; unfold inR; simp; omega
theorem num_ge (x : Int) : -9223372036854775808 <= num x := by
 unfold num inR; split <;> simp_all
theorem num_le (x : Int) : num x <= 9223372036854775807 := by
 unfold num inR; split <;> simp_all
def sg (below : Bool) (m : Int) : Int := if below then -m else m
theorem sg_true (m : Int) : sg true m = -m := rfl
theorem sg_false (m : Int) : sg false m = m := rfl
/-! ### Returned values that are equal by their numbers -/
theorem ret1 {k : IntKind} {x y : Int} (h : x = y) : Ending.returned (.int k x) = Ending.returned (.int k y) := by rw [h]
theorem ret2 {x y e f : Int} (h : x = y) (g : e = f) : Ending.returned (.tuple #[.int .i64 x, .int .i64 e]) = Ending.returned (.tuple #[.int .i64 y, .int .i64 f]) := by rw [h, g]
/-! ### Signs of what exclusive or and and make -/
theorem wrap_toNat (v : BitVec 64) : IntKind.i64.wrap (v.toNat : Int) = v.toInt := by
 have h := v.isLt
 rw [BitVec.toInt_eq_toNat_cond]
 simp only [IntKind.wrap, IntKind.bits, IntKind.signed, Bool.true_and, decide_eq_true_eq, Nat.reduceSub, Int.reducePow, ge_iff_le]
 split <;> split <;> omega
theorem msb_ofInt {x : Int} (h0 : -9223372036854775808 <= x) (h1 : x <= 9223372036854775807) : (BitVec.ofInt 64 x).msb = decide (x < 0) := by
 rw [BitVec.msb_eq_toInt]
 congr 1
 rw [BitVec.toInt_ofInt, Int.bmod_eq_of_le (by omega) (by omega)]
theorem bits_xor_toInt (x y : Int) : bits .xor .i64 x y = (BitVec.ofInt 64 x ^^^ BitVec.ofInt 64 y).toInt := wrap_toNat _
theorem bits_and_toInt (x y : Int) : bits .and .i64 x y = (BitVec.ofInt 64 x &&& BitVec.ofInt 64 y).toInt := wrap_toNat _
theorem both_below {x y z u : Int} (hx0 : -9223372036854775808 <= x) (hx1 : x <= 9223372036854775807) (hy0 : -9223372036854775808 <= y) (hy1 : y <= 9223372036854775807)
  (hz0 : -9223372036854775808 <= z) (hz1 : z <= 9223372036854775807) (hu0 : -9223372036854775808 <= u) (hu1 : u <= 9223372036854775807) :
  bits .and .i64 (bits .xor .i64 x y) (bits .xor .i64 z u) < 0 ↔ (¬ (x < 0 ↔ y < 0) /\ ¬ (z < 0 ↔ u < 0)) := by
 rw [bits_and_toInt, bits_xor_toInt, bits_xor_toInt, BitVec.ofInt_toInt, BitVec.ofInt_toInt]
 have e : ∀ v : BitVec 64, v.toInt < 0 ↔ v.msb = true := fun v => by rw [BitVec.msb_eq_toInt]; simp
 rw [e, BitVec.msb_and, BitVec.msb_xor, BitVec.msb_xor, msb_ofInt hx0 hx1, msb_ofInt hy0 hy1, msb_ofInt hz0 hz1, msb_ofInt hu0 hu1]
 by_cases c1 : x < 0 <;> by_cases c2 : y < 0 <;> by_cases c3 : z < 0 <;> by_cases c4 : u < 0 <;> simp [c1, c2, c3, c4]
theorem wrap64_ge (x : Int) : -9223372036854775808 <= wrap64 x := by unfold wrap64; omega
theorem wrap64_le (x : Int) : wrap64 x <= 9223372036854775807 := by unfold wrap64; omega
theorem add_test {a b : Int} (a0 : -9223372036854775808 <= a) (a1 : a <= 9223372036854775807) (b0 : -9223372036854775808 <= b) (b1 : b <= 9223372036854775807) :
  bits .and .i64 (bits .xor .i64 a (wrap64 (a + b))) (bits .xor .i64 b (wrap64 (a + b))) < 0 ↔ (a + b < -9223372036854775808 \/ 9223372036854775807 < a + b) := by
 rw [both_below a0 a1 (wrap64_ge _) (wrap64_le _) b0 b1 (wrap64_ge _) (wrap64_le _)]
 unfold wrap64
 omega
theorem sub_test {a b : Int} (a0 : -9223372036854775808 <= a) (a1 : a <= 9223372036854775807) (b0 : -9223372036854775808 <= b) (b1 : b <= 9223372036854775807) :
  bits .and .i64 (bits .xor .i64 a b) (bits .xor .i64 a (wrap64 (a - b))) < 0 ↔ (a - b < -9223372036854775808 \/ 9223372036854775807 < a - b) := by
 rw [both_below a0 a1 b0 b1 a0 a1 (wrap64_ge _) (wrap64_le _)]
 unfold wrap64
 omega
theorem wrap64_in' {x : Int} (h : ¬ (x < -9223372036854775808 \/ 9223372036854775807 < x)) : wrap64 x = x := by unfold wrap64; omega
end Go.Proofs.YtiijfmdfccdagaaGreatDoor.Sums
namespace Go.Proofs.YtiijfmdfccdagaaGreatDoor.EPure
structure Ex where
 mk ::
 (o0 : Int) (i0 : Int) (s0 : ByteArray) (l0 : List Ex)
def Ex.o : Ex -> Int | .mk o _ _ _ => o
def Ex.i : Ex -> Int | .mk _ i _ _ => i
def Ex.s : Ex -> ByteArray | .mk _ _ s _ => s
def Ex.l : Ex -> List Ex | .mk _ _ _ l => l
end Go.Proofs.YtiijfmdfccdagaaGreatDoor.EPure
namespace Go.Proofs.YtiijfmdfccdagaaGreatDoor.TextKey
open Go.RowKit Base Digits
def tx : C -> ByteArray
 | .mk k b i s _ _ => if k = 1 then ⟨#[]⟩ else if k = 2 then (if b = true then ⟨#[116, 114, 117, 101]⟩ else ⟨#[102, 97, 108, 115, 101]⟩) else if k = 3 then ⟨(Lib.itoa i).toArray⟩ else if k = 4 then s else ⟨#[]⟩
def te : C -> Int
 | .mk k _ _ _ _ _ => if k = 1 \/ k = 2 \/ k = 3 \/ k = 4 then 0 else 504
def kk : C -> Int
 | .mk k _ _ _ _ _ => if k = 3 \/ k = 4 then k else 0
def ki : C -> Int
 | .mk k _ i _ _ _ => if k = 3 then i else 0
def ks : C -> ByteArray
 | .mk k _ _ s _ _ => if k = 4 then s else ⟨#[]⟩
def ke : C -> Int
 | .mk k _ _ _ _ _ => if k = 3 \/ k = 4 then 0 else 505
theorem text_c {m : Nat} {v : Value} {c : C} {w : World} (h : In false All w m v c) (ht : Tab w) :
  Calls prog 24 #[v] w fun e w' => e = .returned (.tuple #[.string (tx c), .int .i64 (te c)]) /\ Below w.heap.size w w' := by
 obtain ⟨m', nv, lv, -, rfl, -, hi, -, -, -⟩ := h.shape
 clear h
 obtain ⟨k, b, i, s, n, l⟩ := c
 simp only [C.k, C.b, C.i, C.s] at *
 have hb : Below w.heap.size w (w.alloc (.cells #[.int .i64 k, .bool b, .int .i64 i, .string s, nv, lv] 26)) := (Below.refl _ w).alloc (Nat.le_refl _) _
 have c46 := text i hi.1 hi.2 (w.alloc (.cells #[.int .i64 k, .bool b, .int .i64 i, .string s, nv, lv] 26)) (ht.later hb)
 by_cases h1 : k = 1
 ·subst h1
  go_enter func24, ntmps24
  go_wp2_with fail
  go_ret2
  exact ⟨rfl, hb⟩
 by_cases h2 : k = 2
 ·subst h2
  cases b
  ·go_enter func24, ntmps24
   go_wp2_with fail
   go_ret2
   exact ⟨rfl, hb⟩
  ·go_enter func24, ntmps24
   go_wp2_with fail
   go_ret2
   exact ⟨rfl, hb⟩
 by_cases h3 : k = 3
 ·subst h3
  go_enter func24, ntmps24
  go_wp2_with (first | (go_at_call 39; refine c46.mono ?_; rintro e w1 ⟨rfl, b1⟩))
  go_ret2
  exact ⟨rfl, nx hb b1⟩
 by_cases h4 : k = 4
 ·subst h4
  go_enter func24, ntmps24
  go_wp2_with fail
  go_ret2
  exact ⟨rfl, hb⟩
 have e1 : tx (.mk k b i s n l) = ⟨#[]⟩ := by simp [tx, h1, h2, h3, h4]
 have e2 : te (.mk k b i s n l) = 504 := by simp [te, h1, h2, h3, h4]
 rw [e1, e2]
 have h1' : (k == 1) = false := by simp [h1]
 have h2' : (k == 2) = false := by simp [h2]
 have h3' : (k == 3) = false := by simp [h3]
 have h4' : (k == 4) = false := by simp [h4]
 go_enter func24, ntmps24
 go_wp2_with fail
 go_ret2
 exact ⟨rfl, hb⟩
end Go.Proofs.YtiijfmdfccdagaaGreatDoor.TextKey
namespace Go.Proofs.YtiijfmdfccdagaaGreatDoor.WhA
open Go.ChangeShapes Go.WideShapes Go.ChangeAt Go.RowKit Sums
theorem wsize (a : Int) (h0 : -9223372036854775808 <= a) (h1 : a <= 9223372036854775807) (w : World) :
  Calls prog 165 #[.int .i64 a] w fun e w' => e = .returned (.int .u64 (a.natAbs : Int)) /\ w' = w := by
 by_cases c : a < 0
 ·go_enter func165, ntmps165
  go_wp2
  go_ret
  exact ⟨ret1 (by simp only [IntKind.wrap_u64]; omega), rfl⟩
 ·go_enter func165, ntmps165
  go_wp2
  go_ret
  exact ⟨ret1 (by omega), rfl⟩
theorem withSign (m : Int) (below : Bool) (h0 : 0 <= m) (h1 : m <= 18446744073709551615) (w : World) :
  Calls prog 166 #[.int .u64 m, .bool below] w fun e w' => e = .returned (.tuple #[.int .i64 (num (sg below m)), .int .i64 (err (sg below m))]) /\ w' = w := by
 cases below
 ·by_cases c : m <= 9223372036854775807
  ·go_enter func166, ntmps166
   go_wp2
   go_ret2
   rw [sg_false, num_in (by omega) (by omega), err_in (by omega) (by omega)]
   exact ⟨rfl, rfl⟩
  ·go_enter func166, ntmps166
   go_wp2
   go_ret2
   rw [sg_false, num_out (by omega), err_out (by omega)]
   exact ⟨rfl, rfl⟩
 ·by_cases c : m <= 9223372036854775808
  ·go_enter func166, ntmps166
   go_wp2
   go_ret2
   rw [sg_true, num_in (by omega) (by omega), err_in (by omega) (by omega)]
   exact ⟨ret2 (by simp only [IntKind.wrap_u64]; unfold wrap64; omega) rfl, rfl⟩
  ·go_enter func166, ntmps166
   go_wp2
   go_ret2
   rw [sg_true, num_out (by omega), err_out (by omega)]
   exact ⟨rfl, rfl⟩
theorem add (a b : Int) (a0 : -9223372036854775808 <= a) (a1 : a <= 9223372036854775807) (b0 : -9223372036854775808 <= b) (b1 : b <= 9223372036854775807) (w : World) :
  Calls prog 124 #[.int .i64 a, .int .i64 b] w fun e w' => e = .returned (.tuple #[.int .i64 (num (a + b)), .int .i64 (err (a + b))]) /\ w' = w := by
 have t := add_test a0 a1 b0 b1
 by_cases c : bits .and .i64 (bits .xor .i64 a (wrap64 (a + b))) (bits .xor .i64 b (wrap64 (a + b))) < 0
 ·have c' := t.mp c
  rw [num_out c', err_out c']
  clear t c' a0 a1 b0 b1
  go_enter func124, ntmps124
  go_wp2
  go_ret2
  exact ⟨rfl, rfl⟩
 ·have c' := fun h => c (t.mpr h)
  have e := wrap64_in' c'
  rw [num_in (by omega) (by omega), err_in (by omega) (by omega), <- e]
  clear t c' a0 a1 b0 b1 e
  go_enter func124, ntmps124
  go_wp2
  go_ret2
  exact ⟨rfl, rfl⟩
theorem sub (a b : Int) (a0 : -9223372036854775808 <= a) (a1 : a <= 9223372036854775807) (b0 : -9223372036854775808 <= b) (b1 : b <= 9223372036854775807) (w : World) :
  Calls prog 122 #[.int .i64 a, .int .i64 b] w fun e w' => e = .returned (.tuple #[.int .i64 (num (a - b)), .int .i64 (err (a - b))]) /\ w' = w := by
 have t := sub_test a0 a1 b0 b1
 by_cases c : bits .and .i64 (bits .xor .i64 a b) (bits .xor .i64 a (wrap64 (a - b))) < 0
 ·have c' := t.mp c
  rw [num_out c', err_out c']
  clear t c' a0 a1 b0 b1
  go_enter func122, ntmps122
  go_wp2
  go_ret2
  exact ⟨rfl, rfl⟩
 ·have c' := fun h => c (t.mpr h)
  have e := wrap64_in' c'
  rw [num_in (by omega) (by omega), err_in (by omega) (by omega), <- e]
  clear t c' a0 a1 b0 b1 e
  go_enter func122, ntmps122
  go_wp2
  go_ret2
  exact ⟨rfl, rfl⟩
theorem isShift (k : Int) (w : World) :
  Calls prog 167 #[.int .i64 k] w fun r w' => r = .returned (.bool (decide (0 <= k) && decide (k <= 63))) /\ w' = w := by
 by_cases c : 0 <= k
 ·by_cases d : k <= 63
  ·go_enter func167, ntmps167
   go_wp2
   go_ret
   simp [c, d]
  ·go_enter func167, ntmps167
   go_wp2
   go_ret
   simp [d]
 ·go_enter func167, ntmps167
  go_wp2
  go_ret
  simp
  omega
theorem mul_zero (a b lo : Int) (sa sb : Bool) (a0 : -9223372036854775808 <= a) (a1 : a <= 9223372036854775807) (b0 : -9223372036854775808 <= b) (b1 : b <= 9223372036854775807)
  (l0 : 0 <= lo) (l1 : lo <= 18446744073709551615) (da : decide (a < 0) = sa) (db : decide (b < 0) = sb)
  (H : ∀ w, Calls prog 164 #[.int .u64 (a.natAbs : Int), .int .u64 (b.natAbs : Int)] w fun e w' => e = .returned (.tuple #[.int .u64 0, .int .u64 lo]) /\ w' = w) (w : World) :
  Calls prog 125 #[.int .i64 a, .int .i64 b] w fun e w' => e = .returned (.tuple #[.int .i64 (num (sg (sa != sb) lo)), .int .i64 (err (sg (sa != sb) lo))]) /\ w' = w := by
 go_enter func125, ntmps125
 go_wp2_with (first | (go_at_call 165; refine (wsize _ (by omega) (by omega) _).mono ?_; rintro e w' ⟨rfl, rfl⟩) | (go_at_call 164; refine (H _).mono ?_; rintro e w' ⟨rfl, rfl⟩) | (go_at_call 166; refine (withSign _ _ (by omega) (by omega) _).mono ?_; rintro e w' ⟨rfl, rfl⟩))
 go_ret2
 exact ⟨rfl, rfl⟩
theorem mul_pos (a b hi lo : Int) (a0 : -9223372036854775808 <= a) (a1 : a <= 9223372036854775807) (b0 : -9223372036854775808 <= b) (b1 : b <= 9223372036854775807)
  (h0 : 0 < hi)
  (H : ∀ w, Calls prog 164 #[.int .u64 (a.natAbs : Int), .int .u64 (b.natAbs : Int)] w fun e w' => e = .returned (.tuple #[.int .u64 hi, .int .u64 lo]) /\ w' = w) (w : World) :
  Calls prog 125 #[.int .i64 a, .int .i64 b] w fun e w' => e = .returned (.tuple #[.int .i64 0, .int .i64 100]) /\ w' = w := by
 go_enter func125, ntmps125
 go_wp2_with (first | (go_at_call 165; refine (wsize _ (by omega) (by omega) _).mono ?_; rintro e w' ⟨rfl, rfl⟩) | (go_at_call 164; refine (H _).mono ?_; rintro e w' ⟨rfl, rfl⟩))
 go_ret2
 exact ⟨rfl, rfl⟩
theorem prod_sign (a b : Int) : sg (decide (a < 0) != decide (b < 0)) ((a.natAbs * b.natAbs : Nat) : Int) = a * b := by
 have e : ((a.natAbs * b.natAbs : Nat) : Int) = (a.natAbs : Int) * (b.natAbs : Int) := by simp
 rw [e]
 rcases Int.natAbs_eq a with ha | ha <;> rcases Int.natAbs_eq b with hb | hb
 all_goals
  generalize hx : a.natAbs = x at *
  generalize hy : b.natAbs = y at *
  subst ha hb
  have px := Int.natCast_nonneg x
  have py := Int.natCast_nonneg y
  by_cases cx : (x : Int) = 0
  ·simp [cx, sg]
  ·by_cases cy : (y : Int) = 0
   ·simp [cy, sg]
   ·have d1 : decide (-(x : Int) < 0) = true := decide_eq_true (by omega)
    have d2 : decide ((x : Int) < 0) = false := decide_eq_false (by omega)
    have d3 : decide (-(y : Int) < 0) = true := decide_eq_true (by omega)
    have d4 : decide ((y : Int) < 0) = false := decide_eq_false (by omega)
    simp only [d1, d2, d3, d4, sg]
    grind
theorem mul (a b : Int) (a0 : -9223372036854775808 <= a) (a1 : a <= 9223372036854775807) (b0 : -9223372036854775808 <= b) (b1 : b <= 9223372036854775807) (w : World) :
  Calls prog 125 #[.int .i64 a, .int .i64 b] w fun e w' => e = .returned (.tuple #[.int .i64 (num (a * b)), .int .i64 (err (a * b))]) /\ w' = w := by
 have H := Tryz.bits_Mul64 a.natAbs b.natAbs (by omega) (by omega)
 have e := prod_sign a b
 by_cases c : a.natAbs * b.natAbs < 18446744073709551616
 ·rw [Nat.div_eq_of_lt c, Nat.mod_eq_of_lt c] at H
  rw [<- e]
  exact mul_zero a b _ _ _ a0 a1 b0 b1 (by omega) (by omega) rfl rfl H w
 ·have hout : a * b < -9223372036854775808 \/ 9223372036854775807 < a * b := by
   rw [<- e]
   generalize (decide (a < 0) != decide (b < 0)) = s
   cases s
   ·rw [sg_false]; omega
   ·rw [sg_true]; omega
  rw [num_out hout, err_out hout]
  refine mul_pos a b _ _ a0 a1 b0 b1 ?_ H w
  have := Nat.div_pos (Nat.le_of_not_lt c) (by omega)
  omega
/-! ### Plain numbers -/
theorem quot_sign (a b : Int) : sg (decide (a < 0) != decide (b < 0)) ((a.natAbs : Int) / (b.natAbs : Int)) = a.tdiv b := by
 rcases Int.natAbs_eq a with ha | ha <;> rcases Int.natAbs_eq b with hb | hb
 all_goals
  generalize hx : a.natAbs = x at *
  generalize hy : b.natAbs = y at *
  subst ha hb
  have px := Int.natCast_nonneg x
  have py := Int.natCast_nonneg y
  have e := Int.tdiv_eq_ediv_of_nonneg (b := (y : Int)) px
  by_cases cx : (x : Int) = 0
  ·simp [cx, sg]
  ·by_cases cy : (y : Int) = 0
   ·simp [cy, sg]
   ·have d1 : decide (-(x : Int) < 0) = true := decide_eq_true (by omega)
    have d2 : decide ((x : Int) < 0) = false := decide_eq_false (by omega)
    have d3 : decide (-(y : Int) < 0) = true := decide_eq_true (by omega)
    have d4 : decide ((y : Int) < 0) = false := decide_eq_false (by omega)
    simp only [d1, d2, d3, d4, sg, Int.neg_tdiv, Int.tdiv_neg, e]
    simp
theorem rem_sign (a b : Int) : sg (decide (a < 0)) ((a.natAbs : Int) % (b.natAbs : Int)) = a.tmod b := by
 rcases Int.natAbs_eq a with ha | ha <;> rcases Int.natAbs_eq b with hb | hb
 all_goals
  generalize hx : a.natAbs = x at *
  generalize hy : b.natAbs = y at *
  subst ha hb
  have px := Int.natCast_nonneg x
  have e := Int.tmod_eq_emod_of_nonneg (b := (y : Int)) px
  by_cases cx : (x : Int) = 0
  ·simp [cx, sg]
  ·have d1 : decide (-(x : Int) < 0) = true := decide_eq_true (by omega)
   have d2 : decide ((x : Int) < 0) = false := decide_eq_false (by omega)
   simp only [d1, d2, sg, Int.neg_tmod, Int.tmod_neg, e]
   simp
theorem tdiv_range {a b : Int} (a0 : -9223372036854775808 <= a) (a1 : a <= 9223372036854775807) (cb : b ≠ 0) (cm : ¬ (a = -9223372036854775808 /\ b = -1)) :
  -9223372036854775808 <= a.tdiv b /\ a.tdiv b <= 9223372036854775807 := by
 by_cases c1 : b = 1
 ·subst c1; simp; omega
 ·by_cases c2 : b = -1
  ·subst c2
   rw [Int.tdiv_neg, Int.tdiv_one]
   omega
  ·rw [<- quot_sign]
   have h : a.natAbs / b.natAbs <= a.natAbs / 2 := Nat.div_le_div_left (by omega) (by omega)
   have h' : (a.natAbs : Int) / (b.natAbs : Int) = ((a.natAbs / b.natAbs : Nat) : Int) := by simp
   rw [h']
   generalize a.natAbs / b.natAbs = q at *
   generalize (decide (a < 0) != decide (b < 0)) = s
   cases s
   ·rw [sg_false]; omega
   ·rw [sg_true]; omega
theorem tmod_range {a : Int} (b : Int) (a0 : -9223372036854775808 <= a) (a1 : a <= 9223372036854775807) :
  -9223372036854775808 <= a.tmod b /\ a.tmod b <= 9223372036854775807 := by
 rw [<- rem_sign]
 have h : a.natAbs % b.natAbs <= a.natAbs := Nat.mod_le _ _
 have h' : (a.natAbs : Int) % (b.natAbs : Int) = ((a.natAbs % b.natAbs : Nat) : Int) := by simp
 rw [h']
 by_cases c : a < 0
 ·rw [decide_eq_true c, sg_true]; omega
 ·rw [decide_eq_false c, sg_false]; omega
def dnum (a b : Int) : Int := if b = 0 then 0 else num (a.tdiv b)
def derr (a b : Int) : Int := if b = 0 then 101 else err (a.tdiv b)
def mnum (a b : Int) : Int := if b = 0 then 0 else a.tmod b
def merr (b : Int) : Int := if b = 0 then 101 else 0
/-! ### Div, Mod -/
theorem div_zero (a : Int) (w : World) :
  Calls prog 126 #[.int .i64 a, .int .i64 0] w fun e w' => e = .returned (.tuple #[.int .i64 0, .int .i64 101]) /\ w' = w := by
 go_enter func126, ntmps126
 go_wp2
 go_ret2
 exact ⟨rfl, rfl⟩
theorem div_over (w : World) :
  Calls prog 126 #[.int .i64 (-9223372036854775808), .int .i64 (-1)] w fun e w' => e = .returned (.tuple #[.int .i64 0, .int .i64 100]) /\ w' = w := by
 go_enter func126, ntmps126
 go_wp2
 go_ret2
 exact ⟨rfl, rfl⟩
theorem div_ok (a b : Int) (cb : b ≠ 0) (cm : ¬ (a = -9223372036854775808 /\ b = -1)) (w : World) :
  Calls prog 126 #[.int .i64 a, .int .i64 b] w fun e w' => e = .returned (.tuple #[.int .i64 (wrap64 (a.tdiv b)), .int .i64 0]) /\ w' = w := by
 by_cases c : a = -9223372036854775808
 ·have c2 : b ≠ -1 := fun h => cm ⟨c, h⟩
  clear cm
  subst c
  go_enter func126, ntmps126
  go_wp2
  go_ret2
  exact ⟨ret2 (by rw [Int.neg_tdiv]) rfl, rfl⟩
 ·clear cm
  go_enter func126, ntmps126
  go_wp2
  go_ret2
  exact ⟨rfl, rfl⟩
theorem div (a b : Int) (a0 : -9223372036854775808 <= a) (a1 : a <= 9223372036854775807) (w : World) :
  Calls prog 126 #[.int .i64 a, .int .i64 b] w fun e w' => e = .returned (.tuple #[.int .i64 (dnum a b), .int .i64 (derr a b)]) /\ w' = w := by
 unfold dnum derr
 by_cases cb : b = 0
 ·subst cb
  exact div_zero a w
 ·rw [if_neg cb, if_neg cb]
  by_cases cm : a = -9223372036854775808 /\ b = -1
  ·obtain ⟨rfl, rfl⟩ := cm
   have e : Int.tdiv (-9223372036854775808) (-1) = 9223372036854775808 := by decide
   rw [e, num_out (by omega), err_out (by omega)]
   exact div_over w
  ·have r := tdiv_range a0 a1 cb cm
   have h := div_ok a b cb cm w
   rw [wrap64_in' (by omega)] at h
   rw [num_in r.1 r.2, err_in r.1 r.2]
   exact h
theorem mod_zero (a : Int) (w : World) :
  Calls prog 127 #[.int .i64 a, .int .i64 0] w fun e w' => e = .returned (.tuple #[.int .i64 0, .int .i64 101]) /\ w' = w := by
 go_enter func127, ntmps127
 go_wp2
 go_ret2
 exact ⟨rfl, rfl⟩
theorem mod_ok (a b : Int) (cb : b ≠ 0) (w : World) :
  Calls prog 127 #[.int .i64 a, .int .i64 b] w fun e w' => e = .returned (.tuple #[.int .i64 (a.tmod b), .int .i64 0]) /\ w' = w := by
 go_enter func127, ntmps127
 go_wp2
 go_ret2
 exact ⟨rfl, rfl⟩
theorem mod (a b : Int) (w : World) :
  Calls prog 127 #[.int .i64 a, .int .i64 b] w fun e w' => e = .returned (.tuple #[.int .i64 (mnum a b), .int .i64 (merr b)]) /\ w' = w := by
 unfold mnum merr
 by_cases cb : b = 0
 ·subst cb
  exact mod_zero a w
 ·rw [if_neg cb, if_neg cb]
  exact mod_ok a b cb w
theorem shl_back (a : Int) (j : Nat) (hj : j <= 63) : wrap64 (a * 2 ^ j) / 2 ^ j = a ↔ (-9223372036854775808 <= a * 2 ^ j /\ a * 2 ^ j <= 9223372036854775807) := by
 have hm : (0 : Int) < 2 ^ j := Int.pow_pos (by omega)
 have hn : (2 : Int) ^ j * 2 ^ (64 - j) = 18446744073709551616 := by
  rw [<- Int.pow_add, show j + (64 - j) = 64 by omega]; rfl
 have hn0 : (0 : Int) < 2 ^ (64 - j) := Int.pow_pos (by omega)
 generalize (2 : Int) ^ j = m at *
 generalize (2 : Int) ^ (64 - j) = n at *
 obtain ⟨q, hq, hb⟩ : ∃ q : Int, wrap64 (a * m) = a * m - 18446744073709551616 * q /\ (q = 0 ↔ (-9223372036854775808 <= a * m /\ a * m <= 9223372036854775807)) :=
  ⟨(a * m + 9223372036854775808) / 18446744073709551616, by unfold wrap64; omega, by omega⟩
 rw [<- hb, hq, <- hn]
 have e : a * m - m * n * q = m * (a - n * q) := by grind
 rw [e, Int.mul_ediv_cancel_left _ (by omega)]
 constructor
 ·intro h
  have : n * q = 0 := by omega
  rcases Int.mul_eq_zero.mp this with h | h
  ·omega
  ·exact h
 ·intro h
  subst h
  omega
theorem shl_core (a k : Int) (k0 : 0 <= k) (k1 : k <= 63) (x e : Int) (hx : ((wrap64 (a * 2 ^ k.toNat) / 2 ^ k.toNat != a) = false /\ x = wrap64 (a * 2 ^ k.toNat) /\ e = 0) \/ ((wrap64 (a * 2 ^ k.toNat) / 2 ^ k.toNat != a) = true /\ x = 0 /\ e = 100)) (w : World) :
  Calls prog 128 #[.int .i64 a, .int .i64 k] w fun r w' => r = .returned (.tuple #[.int .i64 x, .int .i64 e]) /\ w' = w := by
 have dk : (decide (0 <= k) && decide (k <= 63)) = true := by simp; omega
 rcases hx with ⟨c, rfl, rfl⟩ | ⟨c, rfl, rfl⟩
 ·go_enter func128, ntmps128
  go_wp2_with (first | (go_at_call 167; refine (isShift _ _).mono ?_; rintro e w' ⟨rfl, rfl⟩))
  go_ret2
  exact ⟨rfl, rfl⟩
 ·go_enter func128, ntmps128
  go_wp2_with (first | (go_at_call 167; refine (isShift _ _).mono ?_; rintro e w' ⟨rfl, rfl⟩))
  go_ret2
  exact ⟨rfl, rfl⟩
theorem shl (a k : Int) (k0 : 0 <= k) (k1 : k <= 63) (w : World) :
  Calls prog 128 #[.int .i64 a, .int .i64 k] w fun e w' => e = .returned (.tuple #[.int .i64 (num (a * 2 ^ k.toNat)), .int .i64 (err (a * 2 ^ k.toNat))]) /\ w' = w := by
 refine shl_core a k k0 k1 _ _ ?_ w
 have t := shl_back a k.toNat (by omega)
 by_cases c : wrap64 (a * 2 ^ k.toNat) / 2 ^ k.toNat = a
 ·have r := t.mp c
  refine Or.inl ⟨by simp [c], ?_, err_in r.1 r.2⟩
  rw [num_in r.1 r.2, wrap64_in' (by omega)]
 ·have r : ¬ _ := fun h => c (t.mpr h)
  exact Or.inr ⟨by simp [c], num_out (by omega), err_out (by omega)⟩
theorem shr (a k : Int) (k0 : 0 <= k) (k1 : k <= 63) (w : World) :
  Calls prog 129 #[.int .i64 a, .int .i64 k] w fun e w' => e = .returned (.tuple #[.int .i64 (a / 2 ^ k.toNat), .int .i64 0]) /\ w' = w := by
 have dk : (decide (0 <= k) && decide (k <= 63)) = true := by simp; omega
 go_enter func129, ntmps129
 go_wp2_with (first | (go_at_call 167; refine (isShift _ _).mono ?_; rintro e w' ⟨rfl, rfl⟩))
 go_ret2
 exact ⟨rfl, rfl⟩
theorem shl_bad (a k : Int) (hk : k < 0 \/ 63 < k) (w : World) :
  Calls prog 128 #[.int .i64 a, .int .i64 k] w fun e w' => e = .returned (.tuple #[.int .i64 0, .int .i64 102]) /\ w' = w := by
 have dk : (decide (0 <= k) && decide (k <= 63)) = false := by simp; omega
 go_enter func128, ntmps128
 go_wp2_with (first | (go_at_call 167; refine (isShift _ _).mono ?_; rintro e w' ⟨rfl, rfl⟩))
 go_ret2
 exact ⟨rfl, rfl⟩
theorem shr_bad (a k : Int) (hk : k < 0 \/ 63 < k) (w : World) :
  Calls prog 129 #[.int .i64 a, .int .i64 k] w fun e w' => e = .returned (.tuple #[.int .i64 0, .int .i64 102]) /\ w' = w := by
 have dk : (decide (0 <= k) && decide (k <= 63)) = false := by simp; omega
 go_enter func129, ntmps129
 go_wp2_with (first | (go_at_call 167; refine (isShift _ _).mono ?_; rintro e w' ⟨rfl, rfl⟩))
 go_ret2
 exact ⟨rfl, rfl⟩
theorem div_range {a m : Int} (a0 : -9223372036854775808 <= a) (a1 : a <= 9223372036854775807) (hm : 0 < m) : -9223372036854775808 <= a / m /\ a / m <= 9223372036854775807 := by
 have hr0 := Int.emod_nonneg a (show m ≠ 0 by omega)
 have hr1 := Int.emod_lt_of_pos a hm
 have he := Int.mul_ediv_add_emod a m
 generalize a / m = q at *
 generalize a % m = r at *
 constructor
 ·apply Int.le_of_not_gt
  intro h
  have : m * q <= m * (-9223372036854775809) := Int.mul_le_mul_of_nonneg_left (by omega) (by omega)
  omega
 ·apply Int.le_of_not_gt
  intro h
  have : m * 9223372036854775808 <= m * q := Int.mul_le_mul_of_nonneg_left (by omega) (by omega)
  omega
end Go.Proofs.YtiijfmdfccdagaaGreatDoor.WhA

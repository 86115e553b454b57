import Derived.Below
import Derived.Laws.Bits64
import Derived.Laws.RangeAny
import Derived.OpenShut
import Derived.ProofKit
import Derived.Test.YthjbknncbhkinaaGreatDoorProg
import Derived.WalkKit
set_option linter.unusedVariables false
namespace Go.Proofs.YthjbknncbhkinaaGreatDoor.UBase
def at' (s : ByteArray) (i : Nat) : Nat := (s.get! i).toNat
def tl (s : ByteArray) (i : Nat) : Bool := decide (i < s.size) && (decide (128 <= at' s i) && decide (at' s i < 192))
def len (s : ByteArray) (i : Nat) : Nat :=
 if at' s i < 128 then 1
 else if 194 <= at' s i /\ at' s i < 224 /\ tl s (i + 1) = true then 2
 else if 224 <= at' s i /\ at' s i < 240 /\ tl s (i + 1) = true /\ tl s (i + 2) = true then
  (if (at' s i = 224 /\ at' s (i + 1) < 160) \/ (at' s i = 237 /\ 160 <= at' s (i + 1)) then 0 else 3)
 else if 240 <= at' s i /\ at' s i < 245 /\ tl s (i + 1) = true /\ tl s (i + 2) = true /\ tl s (i + 3) = true then
  (if (at' s i = 240 /\ at' s (i + 1) < 144) \/ (at' s i = 244 /\ 144 <= at' s (i + 1)) then 0 else 4)
 else 0
def bad (s : ByteArray) (i : Nat) : Option Nat := if i < s.size then (if len s i = 0 then some i else bad s (i + len s i)) else none
 termination_by s.size - i
 decreasing_by omega
def vat (s : ByteArray) : Nat := (bad s 0).getD 0
def verr (s : ByteArray) : Nat := if bad s 0 = none then 0 else 300
def rep (s : ByteArray) (i : Nat) : Bool := decide (at' s i = 239) && (decide (at' s (i + 1) = 191) && decide (at' s (i + 2) = 189))
def let' (c : Nat) : Bool := decide (97 <= c) && decide (c <= 122)
def dig (c : Nat) : Bool := decide (48 <= c) && decide (c <= 57)
def sign (j c : Nat) : Bool := let' c || (dig c || decide (c = j))
def word (s : ByteArray) (j : Nat) : Bool := decide (0 < s.size) && (decide (s.size <= 32) && (let' (at' s 0) && decide (∀ i, i < s.size -> sign j (at' s i) = true)))
theorem at_get (s : ByteArray) (i : Nat) (h : i < s.size) : at' s i = (s[i]'h).toNat := by
 unfold at'
 rw [show s.get! i = s.get! (i + 0) from rfl, get_at s i h]
theorem at_out (s : ByteArray) (i : Nat) (h : ¬ i < s.size) : at' s i = 0 := by
 unfold at'
 simp only [ByteArray.get!]
 have h' : ¬ i < s.data.size := h
 rw [getElem!_neg (c := s.data) (i := i) h']
 rfl
theorem at_lt (s : ByteArray) (i : Nat) : at' s i < 256 := UInt8.toNat_lt _
theorem tl_iff (s : ByteArray) (i : Nat) : tl s i = true ↔ (128 <= at' s i /\ at' s i < 192) := by
 unfold tl
 by_cases h : i < s.size
 ·simp [h]
 ·have := at_out s i h
  simp [h, this]
theorem bad_step {s : ByteArray} {i : Nat} (h : i < s.size) (hl : len s i ≠ 0) : bad s i = bad s (i + len s i) := by
 rw [bad, if_pos h, if_neg hl]
theorem bad_here {s : ByteArray} {i : Nat} (h : i < s.size) (hl : len s i = 0) : bad s i = some i := by
 rw [bad, if_pos h, if_pos hl]
theorem bad_end {s : ByteArray} {i : Nat} (h : ¬ i < s.size) : bad s i = none := by
 rw [bad, if_neg h]
theorem len_parts (s : ByteArray) (i : Nat) :
  (len s i = 0) \/ (len s i = 1 /\ at' s i < 128) \/ (len s i = 2 /\ 194 <= at' s i /\ tl s (i + 1) = true) \/ (len s i = 3 /\ 194 <= at' s i /\ tl s (i + 1) = true /\ tl s (i + 2) = true) \/ (len s i = 4 /\ 194 <= at' s i /\ tl s (i + 1) = true /\ tl s (i + 2) = true /\ tl s (i + 3) = true) := by
 unfold len
 repeat' split
 all_goals first
  | (left; rfl)
  | (right; left; exact ⟨rfl, by omega⟩)
  | (rename_i h; right; right; left; exact ⟨rfl, by omega, h.2.2⟩)
  | (rename_i h _; right; right; right; left; exact ⟨rfl, by omega, h.2.2⟩)
  | (rename_i h _; right; right; right; right; exact ⟨rfl, by omega, h.2.2⟩)
theorem len_in {s : ByteArray} {i : Nat} (h : i < s.size) : i + len s i <= s.size := by
 have t (j : Nat) (hj : tl s j = true) : j < s.size := by unfold tl at hj; simp at hj; exact hj.1
 rcases len_parts s i with e | ⟨e, _⟩ | ⟨e, _, h1⟩ | ⟨e, _, h1, h2⟩ | ⟨e, _, h1, h2, h3⟩
 ·omega
 ·omega
 ·have := t _ h1; omega
 ·have := t _ h2; omega
 ·have := t _ h3; omega
def dec4 (a b c d : Nat) : Nat × Nat :=
 if a < 128 then (a, 1)
 else if a / 32 = 6 /\ b / 64 = 2 then (if 128 <= a % 32 * 64 + b % 64 then (a % 32 * 64 + b % 64, 2) else (65533, 1))
 else if a / 16 = 14 /\ b / 64 = 2 /\ c / 64 = 2 then
  (if 2048 <= a % 16 * 4096 + b % 64 * 64 + c % 64 /\ (a % 16 * 4096 + b % 64 * 64 + c % 64 < 55296 \/ (57344 <= a % 16 * 4096 + b % 64 * 64 + c % 64 /\ a % 16 * 4096 + b % 64 * 64 + c % 64 <= 1114111)) then (a % 16 * 4096 + b % 64 * 64 + c % 64, 3) else (65533, 1))
 else if a / 8 = 30 /\ b / 64 = 2 /\ c / 64 = 2 /\ d / 64 = 2 then
  (if 65536 <= a % 8 * 262144 + b % 64 * 4096 + c % 64 * 64 + d % 64 /\ (a % 8 * 262144 + b % 64 * 4096 + c % 64 * 64 + d % 64 < 55296 \/ (57344 <= a % 8 * 262144 + b % 64 * 4096 + c % 64 * 64 + d % 64 /\ a % 8 * 262144 + b % 64 * 4096 + c % 64 * 64 + d % 64 <= 1114111)) then (a % 8 * 262144 + b % 64 * 4096 + c % 64 * 64 + d % 64, 4) else (65533, 1))
 else (65533, 1)
def len4 (a b c d : Nat) : Nat :=
 if a < 128 then 1
 else if 194 <= a /\ a < 224 /\ (128 <= b /\ b < 192) then 2
 else if 224 <= a /\ a < 240 /\ (128 <= b /\ b < 192) /\ (128 <= c /\ c < 192) then (if (a = 224 /\ b < 160) \/ (a = 237 /\ 160 <= b) then 0 else 3)
 else if 240 <= a /\ a < 245 /\ (128 <= b /\ b < 192) /\ (128 <= c /\ c < 192) /\ (128 <= d /\ d < 192) then (if (a = 240 /\ b < 144) \/ (a = 244 /\ 144 <= b) then 0 else 4)
 else 0
theorem len_eq (s : ByteArray) (i : Nat) : len s i = len4 (at' s i) (at' s (i + 1)) (at' s (i + 2)) (at' s (i + 3)) := by
 simp only [len, len4, tl_iff]
theorem dec_eq (s : ByteArray) (i : Nat) : Utf8.decode s i = dec4 (at' s i) (at' s (i + 1)) (at' s (i + 2)) (at' s (i + 3)) := by
 have k (j : Nat) : (decide (i + j < s.size) && at' s (i + j) / 64 == 2) = decide (at' s (i + j) / 64 = 2) := by
  by_cases h : i + j < s.size
  ·simp [h]; rfl
  ·have := at_out s _ h
   simp [h, this]
 have e (j : Nat) : (s.get! (i + j)).toNat = at' s (i + j) := rfl
 have e0 : (s.get! (i + 0)).toNat = at' s i := rfl
 simp only [Utf8.decode, e0, e, k, dec4, Utf8.runeError, Utf8.valid]
 generalize at' s i = a at *
 generalize at' s (i + 1) = b at *
 generalize at' s (i + 2) = c at *
 generalize at' s (i + 3) = d at *
 clear k e e0
 simp only [Bool.and_eq_true, decide_eq_true_eq, beq_iff_eq, Bool.or_eq_true, and_assoc, ge_iff_le]
 have v (n : Nat) : ((0 <= (n : Int) /\ (n : Int) < 55296) \/ (57344 <= (n : Int) /\ (n : Int) <= 1114111)) ↔ (n < 55296 \/ (57344 <= n /\ n <= 1114111)) := by omega
 simp only [v]
theorem four (a b c d : Nat) (ha : a < 256) (hb : b < 256) (hc : c < 256) (hd : d < 256) :
  (len4 a b c d = 0 ↔ ((dec4 a b c d).1 = 65533 /\ ¬ (a = 239 /\ b = 191 /\ c = 189))) /\ (len4 a b c d ≠ 0 -> (dec4 a b c d).2 = len4 a b c d) /\ ((dec4 a b c d).1 = 10 ↔ a = 10) := by
 by_cases h1 : a < 128
 ·simp [len4, dec4, h1]; omega
 by_cases h2 : a / 32 = 6
 ·by_cases h3 : b / 64 = 2
  ·have e3 : 128 <= b /\ b < 192 := by omega
   have e4 : ¬ (224 <= a) := by omega
   have e5 : ¬ (240 <= a) := by omega
   simp only [len4, dec4, h1, h2, h3, e3, e4, e5, true_and, false_and, if_true, if_false, and_true]
   repeat' split
   all_goals (refine ⟨⟨fun h => ?_, fun h => ?_⟩, fun h => ?_, ⟨fun h => ?_, fun h => ?_⟩⟩ <;> (try dsimp only at *) <;> first | omega | (simp only [true_and]; omega))
  ·have e3 : ¬ (128 <= b /\ b < 192) := by omega
   have e4 : ¬ (a / 16 = 14) := by omega
   have e5 : ¬ (a / 8 = 30) := by omega
   simp only [len4, dec4, h1, h2, h3, e3, e4, e5, true_and, false_and, and_false, if_false]
   (refine ⟨⟨fun h => ?_, fun h => ?_⟩, fun h => ?_, ⟨fun h => ?_, fun h => ?_⟩⟩ <;> (try dsimp only at *) <;> first | omega | (simp only [true_and]; omega))
 have h2' : ¬ (194 <= a /\ a < 224) := by omega
 have h2'' : ¬ (194 <= a /\ a < 224 /\ (128 <= b /\ b < 192)) := by omega
 by_cases h3 : a / 16 = 14
 ·have e5 : ¬ (240 <= a) := by omega
  have e6 : ¬ (a / 8 = 30) := by omega
  have e7 : 224 <= a := by omega
  have e8 : a < 240 := by omega
  by_cases h4 : b / 64 = 2
  ·have e3 : 128 <= b /\ b < 192 := by omega
   by_cases h5 : c / 64 = 2
   ·have e4 : 128 <= c /\ c < 192 := by omega
    simp only [len4, dec4, h1, h2, h2', h3, h4, h5, e3, e4, e5, e6, e7, e8, true_and, false_and, if_true, if_false, and_true]
    repeat' split
    all_goals (refine ⟨⟨fun h => ?_, fun h => ?_⟩, fun h => ?_, ⟨fun h => ?_, fun h => ?_⟩⟩ <;> (try dsimp only at *) <;> first | omega | (simp only [true_and]; omega))
   ·have e4 : ¬ (128 <= c /\ c < 192) := by omega
    simp only [len4, dec4, h1, h2, h2', h3, h4, h5, e3, e4, e5, e6, e7, e8, true_and, false_and, and_false, if_false, and_true]
    (refine ⟨⟨fun h => ?_, fun h => ?_⟩, fun h => ?_, ⟨fun h => ?_, fun h => ?_⟩⟩ <;> (try dsimp only at *) <;> first | omega | (simp only [true_and]; omega))
  ·have e3 : ¬ (128 <= b /\ b < 192) := by omega
   simp only [len4, dec4, h1, h2, h3, h4, e3, e5, e6, e7, e8, true_and, false_and, and_false, if_false]
   (refine ⟨⟨fun h => ?_, fun h => ?_⟩, fun h => ?_, ⟨fun h => ?_, fun h => ?_⟩⟩ <;> (try dsimp only at *) <;> first | omega | (simp only [true_and]; omega))
 have h3' : ¬ (224 <= a /\ a < 240 /\ (128 <= b /\ b < 192) /\ (128 <= c /\ c < 192)) := by omega
 by_cases h4 : a / 8 = 30
 ·have e5 : 240 <= a := by omega
  by_cases h5 : b / 64 = 2 /\ c / 64 = 2 /\ d / 64 = 2
  ·obtain ⟨h6, h7, h8⟩ := h5
   have e3 : 128 <= b /\ b < 192 := by omega
   have e4 : 128 <= c /\ c < 192 := by omega
   have e6 : 128 <= d /\ d < 192 := by omega
   simp only [len4, dec4, h1, h2, h3, h4, h6, h7, h8, e3, e4, e5, e6, true_and, if_true, if_false, and_true]
   repeat' split
   all_goals (refine ⟨⟨fun h => ?_, fun h => ?_⟩, fun h => ?_, ⟨fun h => ?_, fun h => ?_⟩⟩ <;> (try dsimp only at *) <;> first | omega | (simp only [true_and]; omega))
  ·have e3 : ¬ (240 <= a /\ a < 245 /\ (128 <= b /\ b < 192) /\ (128 <= c /\ c < 192) /\ (128 <= d /\ d < 192)) := by omega
   have e4 : ¬ (a / 8 = 30 /\ b / 64 = 2 /\ c / 64 = 2 /\ d / 64 = 2) := fun h => h5 h.2
   simp only [len4, dec4, h1, h2, h2'', h3, h3', e3, e4, false_and, if_false]
   (refine ⟨⟨fun h => ?_, fun h => ?_⟩, fun h => ?_, ⟨fun h => ?_, fun h => ?_⟩⟩ <;> (try dsimp only at *) <;> first | omega | (simp only [true_and]; omega))
 ·have e3 : ¬ (240 <= a /\ a < 245 /\ (128 <= b /\ b < 192) /\ (128 <= c /\ c < 192) /\ (128 <= d /\ d < 192)) := by omega
  simp only [len4, dec4, h1, h2, h2'', h3, h3', h4, e3, false_and, if_false]
  (refine ⟨⟨fun h => ?_, fun h => ?_⟩, fun h => ?_, ⟨fun h => ?_, fun h => ?_⟩⟩ <;> (try dsimp only at *) <;> first | omega | (simp only [true_and]; omega))
theorem dec_len (s : ByteArray) (i : Nat) :
  (len s i = 0 ↔ ((Utf8.decode s i).1 = 65533 /\ rep s i = false)) /\ (len s i ≠ 0 -> (Utf8.decode s i).2 = len s i) /\ ((Utf8.decode s i).1 = 10 ↔ at' s i = 10) := by
 have h := four (at' s i) (at' s (i + 1)) (at' s (i + 2)) (at' s (i + 3)) (at_lt ..) (at_lt ..) (at_lt ..) (at_lt ..)
 rw [<- len_eq, <- dec_eq] at h
 have e : rep s i = false ↔ ¬ (at' s i = 239 /\ at' s (i + 1) = 191 /\ at' s (i + 2) = 189) := by unfold rep; simp
 rw [e]
 exact h
theorem at_append_left (s t : ByteArray) (i : Nat) (h : i < s.size) : at' (s ++ t) i = at' s i := by
 rw [at_get s i h, at_get (s ++ t) i (by simp; omega)]
 congr 1
 exact ByteArray.getElem_append_left h
theorem at_append_right (s t : ByteArray) (j : Nat) : at' (s ++ t) (s.size + j) = at' t j := by
 by_cases h : j < t.size
 ·rw [at_get t j h, at_get (s ++ t) (s.size + j) (by simp; omega)]
  congr 1
  rw [ByteArray.getElem_append_right (by omega)]
  congr 1
  omega
 ·rw [at_out t j h, at_out (s ++ t) _ (by simp; omega)]
end Go.Proofs.YthjbknncbhkinaaGreatDoor.UBase
namespace Go.Proofs.YthjbknncbhkinaaGreatDoor.Sums
open Go Go.RowKit
def inR (x : Int) : Bool := decide (-9223372036854775808 <= x) && decide (x <= 9223372036854775807)
def num (x : Int) : Int := if inR x then x else 0
def err (x : Int) : Int := if inR x then 0 else 100
theorem num_in {x : Int} (h0 : -9223372036854775808 <= x) (h1 : x <= 9223372036854775807) : num x = x := by
 unfold num inR; simp [h0, h1]
theorem err_in {x : Int} (h0 : -9223372036854775808 <= x) (h1 : x <= 9223372036854775807) : err x = 0 := by
 unfold err inR; simp [h0, h1]
theorem num_out {x : Int} (h : x < -9223372036854775808 \/ 9223372036854775807 < x) : num x = 0 := by
 unfold num; rw [if_neg]; unfold inR; simp; omega
theorem err_out {x : Int} (h : x < -9223372036854775808 \/ 9223372036854775807 < x) : err x = 100 := by
 unfold err; rw [if_neg]; unfold inR; simp; omega
theorem num_ge (x : Int) : -9223372036854775808 <= num x := by
 unfold num inR; split <;> simp_all
theorem num_le (x : Int) : num x <= 9223372036854775807 := by
 unfold num inR; split <;> simp_all
def sg (below : Bool) (m : Int) : Int := if below then -m else m
theorem sg_true (m : Int) : sg true m = -m := rfl
theorem sg_false (m : Int) : sg false m = m := rfl
/-! ### Returned values that are equal by their numbers -/
theorem ret1 {k : IntKind} {x y : Int} (h : x = y) : Ending.returned (.int k x) = Ending.returned (.int k y) := by rw [h]
theorem ret2 {x y e f : Int} (h : x = y) (g : e = f) : Ending.returned (.tuple #[.int .i64 x, .int .i64 e]) = Ending.returned (.tuple #[.int .i64 y, .int .i64 f]) := by rw [h, g]
/-! ### Signs of what exclusive or and and make -/
theorem wrap_toNat (v : BitVec 64) : IntKind.i64.wrap (v.toNat : Int) = v.toInt := by
 have h := v.isLt
 rw [BitVec.toInt_eq_toNat_cond]
 simp only [IntKind.wrap, IntKind.bits, IntKind.signed, Bool.true_and, decide_eq_true_eq, Nat.reduceSub, Int.reducePow, ge_iff_le]
 split <;> split <;> omega
theorem msb_ofInt {x : Int} (h0 : -9223372036854775808 <= x) (h1 : x <= 9223372036854775807) : (BitVec.ofInt 64 x).msb = decide (x < 0) := by
 rw [BitVec.msb_eq_toInt]
 congr 1
 rw [BitVec.toInt_ofInt, Int.bmod_eq_of_le (by omega) (by omega)]
theorem bits_xor_toInt (x y : Int) : bits .xor .i64 x y = (BitVec.ofInt 64 x ^^^ BitVec.ofInt 64 y).toInt := wrap_toNat _
theorem bits_and_toInt (x y : Int) : bits .and .i64 x y = (BitVec.ofInt 64 x &&& BitVec.ofInt 64 y).toInt := wrap_toNat _
theorem both_below {x y z u : Int} (hx0 : -9223372036854775808 <= x) (hx1 : x <= 9223372036854775807) (hy0 : -9223372036854775808 <= y) (hy1 : y <= 9223372036854775807)
  (hz0 : -9223372036854775808 <= z) (hz1 : z <= 9223372036854775807) (hu0 : -9223372036854775808 <= u) (hu1 : u <= 9223372036854775807) :
  bits .and .i64 (bits .xor .i64 x y) (bits .xor .i64 z u) < 0 ↔ (¬ (x < 0 ↔ y < 0) /\ ¬ (z < 0 ↔ u < 0)) := by
 rw [bits_and_toInt, bits_xor_toInt, bits_xor_toInt, BitVec.ofInt_toInt, BitVec.ofInt_toInt]
 have e : ∀ v : BitVec 64, v.toInt < 0 ↔ v.msb = true := fun v => by rw [BitVec.msb_eq_toInt]; simp
 rw [e, BitVec.msb_and, BitVec.msb_xor, BitVec.msb_xor, msb_ofInt hx0 hx1, msb_ofInt hy0 hy1, msb_ofInt hz0 hz1, msb_ofInt hu0 hu1]
 by_cases c1 : x < 0 <;> by_cases c2 : y < 0 <;> by_cases c3 : z < 0 <;> by_cases c4 : u < 0 <;> simp [c1, c2, c3, c4]
theorem wrap64_ge (x : Int) : -9223372036854775808 <= wrap64 x := by unfold wrap64; omega
theorem wrap64_le (x : Int) : wrap64 x <= 9223372036854775807 := by unfold wrap64; omega
theorem add_test {a b : Int} (a0 : -9223372036854775808 <= a) (a1 : a <= 9223372036854775807) (b0 : -9223372036854775808 <= b) (b1 : b <= 9223372036854775807) :
  bits .and .i64 (bits .xor .i64 a (wrap64 (a + b))) (bits .xor .i64 b (wrap64 (a + b))) < 0 ↔ (a + b < -9223372036854775808 \/ 9223372036854775807 < a + b) := by
 rw [both_below a0 a1 (wrap64_ge _) (wrap64_le _) b0 b1 (wrap64_ge _) (wrap64_le _)]
 unfold wrap64
 omega
theorem sub_test {a b : Int} (a0 : -9223372036854775808 <= a) (a1 : a <= 9223372036854775807) (b0 : -9223372036854775808 <= b) (b1 : b <= 9223372036854775807) :
  bits .and .i64 (bits .xor .i64 a b) (bits .xor .i64 a (wrap64 (a - b))) < 0 ↔ (a - b < -9223372036854775808 \/ 9223372036854775807 < a - b) := by
 rw [both_below a0 a1 b0 b1 a0 a1 (wrap64_ge _) (wrap64_le _)]
 unfold wrap64
 omega
theorem wrap64_in' {x : Int} (h : ¬ (x < -9223372036854775808 \/ 9223372036854775807 < x)) : wrap64 x = x := by unfold wrap64; omega
end Go.Proofs.YthjbknncbhkinaaGreatDoor.Sums

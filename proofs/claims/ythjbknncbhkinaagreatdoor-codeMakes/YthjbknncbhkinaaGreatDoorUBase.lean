/- Texts, plainly: characters of UTF-8, the first byte that begins none, lines and columns, words. -/
import Derived.Test.YthjbknncbhkinaaGreatDoorProg
import Derived.WalkKit
import Derived.ProofKit
import Derived.OpenShut
import Derived.Below
import Derived.Laws.RangeAny
namespace Go.Proofs.YthjbknncbhkinaaGreatDoor.UBase
set_option linter.unusedVariables false

/-- The byte at a place; 0 behind the end. -/
def at' (s : ByteArray) (i : Nat) : Nat := (s.get! i).toNat
/-- A continuation byte of the text? -/
def tl (s : ByteArray) (i : Nat) : Bool := decide (i < s.size) && (decide (128 ≤ at' s i) && decide (at' s i < 192))
/-- How many bytes the character at a place has; 0: it is none. -/
def len (s : ByteArray) (i : Nat) : Nat :=
  if at' s i < 128 then 1
  else if 194 ≤ at' s i ∧ at' s i < 224 ∧ tl s (i + 1) = true then 2
  else if 224 ≤ at' s i ∧ at' s i < 240 ∧ tl s (i + 1) = true ∧ tl s (i + 2) = true then
    (if (at' s i = 224 ∧ at' s (i + 1) < 160) ∨ (at' s i = 237 ∧ 160 ≤ at' s (i + 1)) then 0 else 3)
  else if 240 ≤ at' s i ∧ at' s i < 245 ∧ tl s (i + 1) = true ∧ tl s (i + 2) = true ∧ tl s (i + 3) = true then
    (if (at' s i = 240 ∧ at' s (i + 1) < 144) ∨ (at' s i = 244 ∧ 144 ≤ at' s (i + 1)) then 0 else 4)
  else 0
/-- The place of the first byte, from a place on, that is no part of a whole character. -/
def bad (s : ByteArray) (i : Nat) : Option Nat := if i < s.size then (if len s i = 0 then some i else bad s (i + len s i)) else none
  termination_by s.size - i
  decreasing_by omega
/-- What Valid answers: the place, the error. -/
def vat (s : ByteArray) : Nat := (bad s 0).getD 0
def verr (s : ByteArray) : Nat := if bad s 0 = none then 0 else 300
/-- U+FFFD spelled out at a place. -/
def rep (s : ByteArray) (i : Nat) : Bool := decide (at' s i = 239) && (decide (at' s (i + 1) = 191) && decide (at' s (i + 2) = 189))
/-- The line and the column of a place. -/
def ln (s : ByteArray) : Nat → Nat
  | 0 => 1
  | i + 1 => if at' s i = 10 then ln s i + 1 else ln s i
def cl (s : ByteArray) : Nat → Nat
  | 0 => 1
  | i + 1 => if at' s i = 10 then 1 else if 128 ≤ at' s i ∧ at' s i < 192 then cl s i else cl s i + 1
/-- Signs of words. -/
def let' (c : Nat) : Bool := decide (97 ≤ c) && decide (c ≤ 122)
def dig (c : Nat) : Bool := decide (48 ≤ c) && decide (c ≤ 57)
def sign (j c : Nat) : Bool := let' c || (dig c || decide (c = j))
/-- A word whose joints are this byte. -/
def word (s : ByteArray) (j : Nat) : Bool := decide (0 < s.size) && (decide (s.size ≤ 32) && (let' (at' s 0) && decide (∀ i, i < s.size → sign j (at' s i) = true)))

theorem at_get (s : ByteArray) (i : Nat) (h : i < s.size) : at' s i = (s[i]'h).toNat := by
  unfold at'
  rw [show s.get! i = s.get! (i + 0) from rfl, get_at s i h]
theorem at_out (s : ByteArray) (i : Nat) (h : ¬ i < s.size) : at' s i = 0 := by
  unfold at'
  simp only [ByteArray.get!]
  have h' : ¬ i < s.data.size := h
  rw [getElem!_neg (c := s.data) (i := i) h']
  rfl
theorem at_lt (s : ByteArray) (i : Nat) : at' s i < 256 := UInt8.toNat_lt _

theorem tl_iff (s : ByteArray) (i : Nat) : tl s i = true ↔ (128 ≤ at' s i ∧ at' s i < 192) := by
  unfold tl
  by_cases h : i < s.size
  · simp [h]
  · have := at_out s i h
    simp [h, this]

theorem ln_le (s : ByteArray) : ∀ i, 1 ≤ ln s i ∧ ln s i ≤ i + 1
  | 0 => by simp [ln]
  | i + 1 => by have := ln_le s i; simp only [ln]; split <;> omega
theorem cl_le (s : ByteArray) : ∀ i, 1 ≤ cl s i ∧ cl s i ≤ i + 1
  | 0 => by simp [cl]
  | i + 1 => by have := cl_le s i; simp only [cl]; repeat' split
                all_goals omega

theorem bad_step {s : ByteArray} {i : Nat} (h : i < s.size) (hl : len s i ≠ 0) : bad s i = bad s (i + len s i) := by
  rw [bad, if_pos h, if_neg hl]
theorem bad_here {s : ByteArray} {i : Nat} (h : i < s.size) (hl : len s i = 0) : bad s i = some i := by
  rw [bad, if_pos h, if_pos hl]
theorem bad_end {s : ByteArray} {i : Nat} (h : ¬ i < s.size) : bad s i = none := by
  rw [bad, if_neg h]

/-- What a character is made of. -/
theorem len_parts (s : ByteArray) (i : Nat) :
    (len s i = 0) ∨ (len s i = 1 ∧ at' s i < 128) ∨ (len s i = 2 ∧ 194 ≤ at' s i ∧ tl s (i + 1) = true) ∨ (len s i = 3 ∧ 194 ≤ at' s i ∧ tl s (i + 1) = true ∧ tl s (i + 2) = true) ∨ (len s i = 4 ∧ 194 ≤ at' s i ∧ tl s (i + 1) = true ∧ tl s (i + 2) = true ∧ tl s (i + 3) = true) := by
  unfold len
  repeat' split
  all_goals first
    | (left; rfl)
    | (right; left; exact ⟨rfl, by omega⟩)
    | (rename_i h; right; right; left; exact ⟨rfl, by omega, h.2.2⟩)
    | (rename_i h _; right; right; right; left; exact ⟨rfl, by omega, h.2.2⟩)
    | (rename_i h _; right; right; right; right; exact ⟨rfl, by omega, h.2.2⟩)
theorem len_in {s : ByteArray} {i : Nat} (h : i < s.size) : i + len s i ≤ s.size := by
  have t (j : Nat) (hj : tl s j = true) : j < s.size := by unfold tl at hj; simp at hj; exact hj.1
  rcases len_parts s i with e | ⟨e, _⟩ | ⟨e, _, h1⟩ | ⟨e, _, h1, h2⟩ | ⟨e, _, h1, h2, h3⟩
  · omega
  · omega
  · have := t _ h1; omega
  · have := t _ h2; omega
  · have := t _ h3; omega

/-- What range makes of four bytes, and how many of them are a character. -/
def dec4 (a b c d : Nat) : Nat × Nat :=
  if a < 128 then (a, 1)
  else if a / 32 = 6 ∧ b / 64 = 2 then (if 128 ≤ a % 32 * 64 + b % 64 then (a % 32 * 64 + b % 64, 2) else (65533, 1))
  else if a / 16 = 14 ∧ b / 64 = 2 ∧ c / 64 = 2 then
    (if 2048 ≤ a % 16 * 4096 + b % 64 * 64 + c % 64 ∧ (a % 16 * 4096 + b % 64 * 64 + c % 64 < 55296 ∨ (57344 ≤ a % 16 * 4096 + b % 64 * 64 + c % 64 ∧ a % 16 * 4096 + b % 64 * 64 + c % 64 ≤ 1114111)) then (a % 16 * 4096 + b % 64 * 64 + c % 64, 3) else (65533, 1))
  else if a / 8 = 30 ∧ b / 64 = 2 ∧ c / 64 = 2 ∧ d / 64 = 2 then
    (if 65536 ≤ a % 8 * 262144 + b % 64 * 4096 + c % 64 * 64 + d % 64 ∧ (a % 8 * 262144 + b % 64 * 4096 + c % 64 * 64 + d % 64 < 55296 ∨ (57344 ≤ a % 8 * 262144 + b % 64 * 4096 + c % 64 * 64 + d % 64 ∧ a % 8 * 262144 + b % 64 * 4096 + c % 64 * 64 + d % 64 ≤ 1114111)) then (a % 8 * 262144 + b % 64 * 4096 + c % 64 * 64 + d % 64, 4) else (65533, 1))
  else (65533, 1)
def len4 (a b c d : Nat) : Nat :=
  if a < 128 then 1
  else if 194 ≤ a ∧ a < 224 ∧ (128 ≤ b ∧ b < 192) then 2
  else if 224 ≤ a ∧ a < 240 ∧ (128 ≤ b ∧ b < 192) ∧ (128 ≤ c ∧ c < 192) then (if (a = 224 ∧ b < 160) ∨ (a = 237 ∧ 160 ≤ b) then 0 else 3)
  else if 240 ≤ a ∧ a < 245 ∧ (128 ≤ b ∧ b < 192) ∧ (128 ≤ c ∧ c < 192) ∧ (128 ≤ d ∧ d < 192) then (if (a = 240 ∧ b < 144) ∨ (a = 244 ∧ 144 ≤ b) then 0 else 4)
  else 0
theorem len_eq (s : ByteArray) (i : Nat) : len s i = len4 (at' s i) (at' s (i + 1)) (at' s (i + 2)) (at' s (i + 3)) := by
  simp only [len, len4, tl_iff]
theorem dec_eq (s : ByteArray) (i : Nat) : Utf8.decode s i = dec4 (at' s i) (at' s (i + 1)) (at' s (i + 2)) (at' s (i + 3)) := by
  have k (j : Nat) : (decide (i + j < s.size) && at' s (i + j) / 64 == 2) = decide (at' s (i + j) / 64 = 2) := by
    by_cases h : i + j < s.size
    · simp [h]; rfl
    · have := at_out s _ h
      simp [h, this]
  have e (j : Nat) : (s.get! (i + j)).toNat = at' s (i + j) := rfl
  have e0 : (s.get! (i + 0)).toNat = at' s i := rfl
  simp only [Utf8.decode, e0, e, k, dec4, Utf8.runeError, Utf8.valid]
  generalize at' s i = a at *
  generalize at' s (i + 1) = b at *
  generalize at' s (i + 2) = c at *
  generalize at' s (i + 3) = d at *
  clear k e e0
  simp only [Bool.and_eq_true, decide_eq_true_eq, beq_iff_eq, Bool.or_eq_true, and_assoc, ge_iff_le]
  have v (n : Nat) : ((0 ≤ (n : Int) ∧ (n : Int) < 55296) ∨ (57344 ≤ (n : Int) ∧ (n : Int) ≤ 1114111)) ↔ (n < 55296 ∨ (57344 ≤ n ∧ n ≤ 1114111)) := by omega
  simp only [v]
theorem four (a b c d : Nat) (ha : a < 256) (hb : b < 256) (hc : c < 256) (hd : d < 256) :
    (len4 a b c d = 0 ↔ ((dec4 a b c d).1 = 65533 ∧ ¬ (a = 239 ∧ b = 191 ∧ c = 189))) ∧ (len4 a b c d ≠ 0 → (dec4 a b c d).2 = len4 a b c d) ∧ ((dec4 a b c d).1 = 10 ↔ a = 10) := by
  by_cases h1 : a < 128
  · simp [len4, dec4, h1]; omega
  by_cases h2 : a / 32 = 6
  · by_cases h3 : b / 64 = 2
    · have e3 : 128 ≤ b ∧ b < 192 := by omega
      have e4 : ¬ (224 ≤ a) := by omega
      have e5 : ¬ (240 ≤ a) := by omega
      simp only [len4, dec4, h1, h2, h3, e3, e4, e5, true_and, false_and, if_true, if_false, and_true]
      repeat' split
      all_goals (refine ⟨⟨fun h => ?_, fun h => ?_⟩, fun h => ?_, ⟨fun h => ?_, fun h => ?_⟩⟩ <;> (try dsimp only at *) <;> first | omega | (simp only [true_and]; omega))
    · have e3 : ¬ (128 ≤ b ∧ b < 192) := by omega
      have e4 : ¬ (a / 16 = 14) := by omega
      have e5 : ¬ (a / 8 = 30) := by omega
      simp only [len4, dec4, h1, h2, h3, e3, e4, e5, true_and, false_and, and_false, if_false]
      (refine ⟨⟨fun h => ?_, fun h => ?_⟩, fun h => ?_, ⟨fun h => ?_, fun h => ?_⟩⟩ <;> (try dsimp only at *) <;> first | omega | (simp only [true_and]; omega))
  have h2' : ¬ (194 ≤ a ∧ a < 224) := by omega
  have h2'' : ¬ (194 ≤ a ∧ a < 224 ∧ (128 ≤ b ∧ b < 192)) := by omega
  by_cases h3 : a / 16 = 14
  · have e5 : ¬ (240 ≤ a) := by omega
    have e6 : ¬ (a / 8 = 30) := by omega
    have e7 : 224 ≤ a := by omega
    have e8 : a < 240 := by omega
    by_cases h4 : b / 64 = 2
    · have e3 : 128 ≤ b ∧ b < 192 := by omega
      by_cases h5 : c / 64 = 2
      · have e4 : 128 ≤ c ∧ c < 192 := by omega
        simp only [len4, dec4, h1, h2, h2', h3, h4, h5, e3, e4, e5, e6, e7, e8, true_and, false_and, if_true, if_false, and_true]
        repeat' split
        all_goals (refine ⟨⟨fun h => ?_, fun h => ?_⟩, fun h => ?_, ⟨fun h => ?_, fun h => ?_⟩⟩ <;> (try dsimp only at *) <;> first | omega | (simp only [true_and]; omega))
      · have e4 : ¬ (128 ≤ c ∧ c < 192) := by omega
        simp only [len4, dec4, h1, h2, h2', h3, h4, h5, e3, e4, e5, e6, e7, e8, true_and, false_and, and_false, if_false, and_true]
        (refine ⟨⟨fun h => ?_, fun h => ?_⟩, fun h => ?_, ⟨fun h => ?_, fun h => ?_⟩⟩ <;> (try dsimp only at *) <;> first | omega | (simp only [true_and]; omega))
    · have e3 : ¬ (128 ≤ b ∧ b < 192) := by omega
      simp only [len4, dec4, h1, h2, h3, h4, e3, e5, e6, e7, e8, true_and, false_and, and_false, if_false]
      (refine ⟨⟨fun h => ?_, fun h => ?_⟩, fun h => ?_, ⟨fun h => ?_, fun h => ?_⟩⟩ <;> (try dsimp only at *) <;> first | omega | (simp only [true_and]; omega))
  have h3' : ¬ (224 ≤ a ∧ a < 240 ∧ (128 ≤ b ∧ b < 192) ∧ (128 ≤ c ∧ c < 192)) := by omega
  by_cases h4 : a / 8 = 30
  · have e5 : 240 ≤ a := by omega
    by_cases h5 : b / 64 = 2 ∧ c / 64 = 2 ∧ d / 64 = 2
    · obtain ⟨h6, h7, h8⟩ := h5
      have e3 : 128 ≤ b ∧ b < 192 := by omega
      have e4 : 128 ≤ c ∧ c < 192 := by omega
      have e6 : 128 ≤ d ∧ d < 192 := by omega
      simp only [len4, dec4, h1, h2, h3, h4, h6, h7, h8, e3, e4, e5, e6, true_and, if_true, if_false, and_true]
      repeat' split
      all_goals (refine ⟨⟨fun h => ?_, fun h => ?_⟩, fun h => ?_, ⟨fun h => ?_, fun h => ?_⟩⟩ <;> (try dsimp only at *) <;> first | omega | (simp only [true_and]; omega))
    · have e3 : ¬ (240 ≤ a ∧ a < 245 ∧ (128 ≤ b ∧ b < 192) ∧ (128 ≤ c ∧ c < 192) ∧ (128 ≤ d ∧ d < 192)) := by omega
      have e4 : ¬ (a / 8 = 30 ∧ b / 64 = 2 ∧ c / 64 = 2 ∧ d / 64 = 2) := fun h => h5 h.2
      simp only [len4, dec4, h1, h2, h2'', h3, h3', e3, e4, false_and, if_false]
      (refine ⟨⟨fun h => ?_, fun h => ?_⟩, fun h => ?_, ⟨fun h => ?_, fun h => ?_⟩⟩ <;> (try dsimp only at *) <;> first | omega | (simp only [true_and]; omega))
  · have e3 : ¬ (240 ≤ a ∧ a < 245 ∧ (128 ≤ b ∧ b < 192) ∧ (128 ≤ c ∧ c < 192) ∧ (128 ≤ d ∧ d < 192)) := by omega
    simp only [len4, dec4, h1, h2, h2'', h3, h3', h4, e3, false_and, if_false]
    (refine ⟨⟨fun h => ?_, fun h => ?_⟩, fun h => ?_, ⟨fun h => ?_, fun h => ?_⟩⟩ <;> (try dsimp only at *) <;> first | omega | (simp only [true_and]; omega))
/-- What range makes of the place. -/
theorem dec_len (s : ByteArray) (i : Nat) :
    (len s i = 0 ↔ ((Utf8.decode s i).1 = 65533 ∧ rep s i = false)) ∧ (len s i ≠ 0 → (Utf8.decode s i).2 = len s i) ∧ ((Utf8.decode s i).1 = 10 ↔ at' s i = 10) := by
  have h := four (at' s i) (at' s (i + 1)) (at' s (i + 2)) (at' s (i + 3)) (at_lt ..) (at_lt ..) (at_lt ..) (at_lt ..)
  rw [← len_eq, ← dec_eq] at h
  have e : rep s i = false ↔ ¬ (at' s i = 239 ∧ at' s (i + 1) = 191 ∧ at' s (i + 2) = 189) := by unfold rep; simp
  rw [e]
  exact h

theorem at_append_left (s t : ByteArray) (i : Nat) (h : i < s.size) : at' (s ++ t) i = at' s i := by
  rw [at_get s i h, at_get (s ++ t) i (by simp; omega)]
  congr 1
  exact ByteArray.getElem_append_left h
theorem at_append_right (s t : ByteArray) (j : Nat) : at' (s ++ t) (s.size + j) = at' t j := by
  by_cases h : j < t.size
  · rw [at_get t j h, at_get (s ++ t) (s.size + j) (by simp; omega)]
    congr 1
    rw [ByteArray.getElem_append_right (by omega)]
    congr 1
    omega
  · rw [at_out t j h, at_out (s ++ t) _ (by simp; omega)]
end Go.Proofs.YthjbknncbhkinaaGreatDoor.UBase

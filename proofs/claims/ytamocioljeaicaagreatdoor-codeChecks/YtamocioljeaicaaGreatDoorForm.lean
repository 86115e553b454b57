/- The plain texts of numbers: what is one, and which number it is. No Go in sight. -/
import Derived.WalkKit
import Derived.Test.YtamocioljeaicaaGreatDoorSums
namespace Go.Proofs.YtamocioljeaicaaGreatDoor.Sums
open Go Go.RowKit

def isDig (c : UInt8) : Bool := decide (48 ≤ c.toNat) && decide (c.toNat ≤ 57)
/-- Digits of which the first is not 0. -/
def posForm (l : List UInt8) : Bool := match l with
  | [] => false
  | c :: r => (c.toNat != 48) && (c :: r).all isDig
def val (l : List UInt8) : Nat := l.foldl (fun n c => n * 10 + (c.toNat - 48)) 0
/-- The bytes of a string. -/
def bs (s : ByteArray) : List UInt8 := s.data.toList
theorem bs_length (s : ByteArray) : (bs s).length = s.size := Array.length_toList
theorem bs_get (s : ByteArray) (j : Nat) (h : j < s.size) : s[j] = (bs s)[j]'(by rw [bs_length]; exact h) := by
  unfold bs
  rw [Array.getElem_toList]
  rfl
theorem val_take (l : List UInt8) (n : Nat) (h : n < l.length) : val (l.take (n + 1)) = val (l.take n) * 10 + (l[n].toNat - 48) := by
  rw [List.take_succ_eq_append_getElem h, val, List.foldl_append]
  rfl
theorem val_nil : val [] = 0 := rfl
theorem isDig_le {c : UInt8} (h : isDig c = true) : 48 ≤ c.toNat ∧ c.toNat ≤ 57 := by
  simpa [isDig] using h
theorem val_append (l r : List UInt8) : val (l ++ r) = val l * 10 ^ r.length + val r := by
  have g : ∀ (r : List UInt8) (x : Nat), r.foldl (fun n c => n * 10 + (c.toNat - 48)) x = x * 10 ^ r.length + r.foldl (fun n c => n * 10 + (c.toNat - 48)) 0 := by
    intro r
    induction r with
    | nil => intro x; simp
    | cons c r ih =>
      intro x
      rw [List.foldl_cons, List.foldl_cons, ih, ih (0 * 10 + (c.toNat - 48)), List.length_cons, Nat.pow_succ]
      grind
  rw [val, List.foldl_append, g]
  rfl
theorem val_lt (l : List UInt8) (h : l.all isDig = true) : val l < 10 ^ l.length := by
  induction l with
  | nil => simp [val]
  | cons c r ih =>
    rw [List.all_cons, Bool.and_eq_true] at h
    have hc := isDig_le h.1
    have := ih h.2
    have e : val (c :: r) = val [c] * 10 ^ r.length + val r := val_append [c] r
    have e1 : val [c] = c.toNat - 48 := by simp [val]
    have hm : (c.toNat - 48) * 10 ^ r.length ≤ 9 * 10 ^ r.length := Nat.mul_le_mul_right _ (by omega)
    rw [e, e1, List.length_cons, Nat.pow_succ]
    omega
/-- A number whose first digit is not 0 has its length. -/
theorem val_ge (l : List UInt8) (h : posForm l = true) : 10 ^ (l.length - 1) ≤ val l := by
  match l, h with
  | c :: r, h =>
    simp only [posForm, Bool.and_eq_true, bne_iff_ne, ne_eq, List.all_cons] at h
    have hc := isDig_le h.2.1
    have e : val (c :: r) = val [c] * 10 ^ r.length + val r := val_append [c] r
    have e1 : val [c] = c.toNat - 48 := by simp [val]
    have hm : 1 * 10 ^ r.length ≤ (c.toNat - 48) * 10 ^ r.length := Nat.mul_le_mul_right _ (by omega)
    rw [e, e1, List.length_cons, Nat.add_sub_cancel]
    omega
theorem posForm_all {l : List UInt8} (h : posForm l = true) : l.all isDig = true := by
  match l, h with
  | c :: r, h =>
    simp only [posForm, Bool.and_eq_true] at h
    exact h.2
theorem posForm_pos {l : List UInt8} (h : posForm l = true) : 0 < l.length := by
  match l, h with
  | c :: r, _ => simp
theorem posForm_of {l : List UInt8} (h0 : 0 < l.length) (hz : l[0].toNat ≠ 48) (h : ∀ j (hj : j < l.length), isDig l[j] = true) : posForm l = true := by
  match l, h0 with
  | c :: r, _ =>
    simp only [posForm, Bool.and_eq_true, bne_iff_ne, ne_eq]
    refine ⟨hz, ?_⟩
    rw [List.all_eq_true]
    intro x hx
    obtain ⟨j, hj, rfl⟩ := List.mem_iff_getElem.mp hx
    exact h j hj
theorem posForm_not {l : List UInt8} {j : Nat} (hj : j < l.length) (h : isDig l[j] = false) : posForm l = false := by
  cases c : posForm l
  · rfl
  · have := List.all_eq_true.mp (posForm_all c) l[j] (List.getElem_mem hj)
    rw [h] at this
    exact absurd this (by decide)
theorem posForm_zero {l : List UInt8} (h0 : 0 < l.length) (hz : l[0].toNat = 48) : posForm l = false := by
  match l, h0 with
  | c :: r, _ =>
    simp only [posForm]
    have : (c.toNat != 48) = false := by simpa using hz
    rw [this, Bool.false_and]
end Go.Proofs.YtamocioljeaicaaGreatDoor.Sums

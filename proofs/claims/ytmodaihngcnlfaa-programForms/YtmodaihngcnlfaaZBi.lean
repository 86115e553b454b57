/- What the bits of the program's words come to, as sums and products. -/
import Derived.Test.YtmodaihngcnlfaaZLb
import Derived.Laws.BitsAllLaws
namespace Go.Proofs.Ytmodaihngcnlfaa.Leb
set_option linter.unusedVariables false

/-- Bytes as cells. -/
def cellsL (l : List UInt8) : List Value := l.map fun c => Value.int .u8 (c.toNat : Int)
theorem cellsL_length (l : List UInt8) : (cellsL l).length = l.length := List.length_map _
theorem cellsL_append (a b : List UInt8) : cellsL (a ++ b) = cellsL a ++ cellsL b := List.map_append
theorem one_cells (L : List UInt8) : ∀ u ∈ cellsL L, u.oneCell' = true := by
  intro u hu
  obtain ⟨_, _, rfl⟩ := List.mem_map.1 hu
  rfl
theorem info5 : (Try.prog.info? 5).map (fun i => (i.zero, i.size, i.bytes)) = some (some (.int .u8 0), 1, 1) := by kernel_rfl
/-- v is a row of one's own (a block from B on) that holds the bytes L. -/
def Own (w : World) (B : Nat) (v : Value) (L : List UInt8) : Prop := w.ownsRow B 5 1 v L.length (cellsL L)
/-- v holds the bytes L. -/
def Seen (w : World) (v : Value) (L : List UInt8) : Prop :=
  ∃ a cap, v = .slice a L.length cap ∧ L.length ≤ cap ∧ cap ≤ maxLen ∧ (a = none → cap = 0) ∧ ∀ g o s, a = some ⟨g, o, s⟩ → ∀ j (hj : j < L.length), s = none ∧ w.cell? ⟨g, o + j, none⟩ = some (.int .u8 (L[j].toNat : Int))
theorem cell_new (w : World) (v : Value) (t : TypeId) : (w.alloc (.cells #[v] t)).cell? ⟨w.heap.size, 0, none⟩ = some v := by
  have h := heap_alloc_new w (.cells #[v] t)
  exact cell_of_one h
theorem add_none (g o j : Nat) : (⟨g, o, none⟩ : Addr).add j = ⟨g, o + j, none⟩ := by
  unfold Addr.add
  split
  · simp_all
  · rfl
theorem Own.seen {w : World} {B : Nat} {v : Value} {L : List UInt8} (h : Own w B v L) : Seen w v L := by
  rcases h.2 with ⟨rfl, h0⟩ | ⟨g, cap, cur, rfl, hb, hh, hn, hm, _⟩
  · have hL : L = [] := List.eq_nil_of_length_eq_zero h0
    subst hL
    exact ⟨none, 0, rfl, by simp, by simp, fun _ => rfl, fun g o s h => by cases h⟩
  · refine ⟨_, cap, rfl, hn, hm, (fun h => by cases h), fun g' o s h => ?_⟩
    cases h
    intro j hj
    refine ⟨rfl, ?_⟩
    have hc := World.ownsRow.cells (g := g) h rfl j (.int .u8 (L[j].toNat : Int)) (by simp [cellsL, hj])
    rw [add_none] at hc
    exact hc
theorem Own.kept {w w' : World} {B : Nat} {v : Value} {L : List UInt8} (h : Own w B v L) {row : Option Nat} (hg : w.grownBy w' row) (hne : v.ownBlock = none ∨ v.ownBlock ≠ row) : Own w' B v L := World.ownsRow.kept h hg hne
end Go.Proofs.Ytmodaihngcnlfaa.Leb

namespace Go.Proofs.Ytmodaihngcnlfaa.Leb
set_option linter.unusedVariables false

theorem or_128 {a : Nat} (h : a < 256) : a ||| 128 = 128 + a % 128 := by
  have h2 : a % 256 = a := Nat.mod_eq_of_lt h
  have h1 : a ||| 128 = (a / 128 * 128) ||| 128 + a % 128 := by
    rcases (show a < 128 ∨ 128 ≤ a by omega) with h3 | h3
    · have := nat_join 7 128 a (by decide) (by omega)
      rw [Nat.or_comm, this]
      have e : a / 128 = 0 := by omega
      rw [e]
      have e' : a % 128 = a := by omega
      rw [e']
      simp
    · have e : a / 128 = 1 := by omega
      have hs : a = 128 ||| a % 128 := by rw [nat_join 7 128 (a % 128) (by decide) (by omega)]; omega
      have hj := nat_join 7 128 (a % 128) (by decide) (by omega)
      rw [e, Nat.one_mul, ← hj]
      conv => lhs; rw [hs]
      rw [Nat.or_comm (128 ||| a % 128) 128]
  rw [h1]
  rcases (show a / 128 = 0 ∨ a / 128 = 1 by omega) with e | e
  · rw [e]; simp
  · rw [e, Nat.one_mul]
    have hj := nat_join 7 128 (a % 128) (by decide) (by omega)
    rw [← hj, ← Nat.or_assoc, Nat.or_self]
theorem bits_more (X : Nat) : bits .or .u8 ((X : Int) % 256) 128 = ((UInt8.ofNat (128 + X % 128)).toNat : Int) := by
  have e : ((X : Int) % 256) = ((X % 256 : Nat) : Int) := by omega
  have h := u8_or_nat (X % 256) 128 (by omega) (by omega)
  have e8 : ((128 : Nat) : Int) = 128 := rfl
  rw [e8] at h
  rw [e, h, or_128 (by omega), byte_of (by omega)]
  have : X % 256 % 128 = X % 128 := by omega
  rw [this]
theorem bits_less (c : Nat) (h : c < 256) : bits .andNot .u8 (c : Int) 128 = ((c % 128 : Nat) : Int) := by
  have h := u8_andNot_nat c 128 h (by omega)
  have e8 : ((128 : Nat) : Int) = 128 := rfl
  rw [e8] at h
  rw [h, nat_mask7]
theorem bits_join (X p i : Nat) (hi : i ≤ 63) (hX : X < 2 ^ i) (hp : p * 2 ^ i < 18446744073709551616) : bits .or .u64 (X : Int) ((p * 2 ^ i : Nat) : Int) = ((X + p * 2 ^ i : Nat) : Int) := by
  have h1 : 2 ^ i ≤ 2 ^ 63 := Nat.pow_le_pow_right (by omega) hi
  rw [u64_or_nat X _ (by omega) hp, Nat.or_comm, nat_join i (p * 2 ^ i) X (Nat.mul_mod_left _ _) hX, Nat.add_comm]
theorem bits_xor0 (a : Nat) (h : a < 18446744073709551616) : bits .xor .u64 (a : Int) 0 = (a : Int) := by
  have := u64_xor_nat a 0 h (by omega)
  simpa using this
theorem bits_xor1 (a : Nat) (h : a < 18446744073709551616) : bits .xor .u64 (a : Int) 18446744073709551615 = ((18446744073709551615 - a : Nat) : Int) := by
  have e : BitVec.ofInt 64 18446744073709551615 = BitVec.allOnes 64 := by decide
  have hb : (BitVec.ofInt 64 (a : Int)).toNat = a := ofInt_u64 a h
  show IntKind.u64.wrap ((BitVec.ofInt 64 (a : Int) ^^^ BitVec.ofInt 64 18446744073709551615).toNat : Int) = _
  rw [e, BitVec.xor_allOnes, BitVec.toNat_not, hb, IntKind.wrap_u64]
  omega
theorem bits_ixor0 (a : Nat) (h : a < 9223372036854775808) : bits .xor .i64 (a : Int) 0 = (a : Int) := by
  have e : BitVec.ofInt 64 0 = 0#64 := by decide
  have hb : (BitVec.ofInt 64 (a : Int)).toNat = a := ofInt_u64 a (by omega)
  show IntKind.i64.wrap ((BitVec.ofInt 64 (a : Int) ^^^ BitVec.ofInt 64 0).toNat : Int) = _
  rw [e, BitVec.xor_zero, hb]
  simp [IntKind.wrap, IntKind.bits, IntKind.signed]
  omega
theorem bits_ixor1 (a : Nat) (h : a < 9223372036854775808) : bits .xor .i64 (a : Int) (-1) = -(a : Int) - 1 := by
  have e : BitVec.ofInt 64 (-1) = BitVec.allOnes 64 := by decide
  have hb : (BitVec.ofInt 64 (a : Int)).toNat = a := ofInt_u64 a (by omega)
  show IntKind.i64.wrap ((BitVec.ofInt 64 (a : Int) ^^^ BitVec.ofInt 64 (-1)).toNat : Int) = _
  rw [e, BitVec.xor_allOnes, BitVec.toNat_not, hb]
  have e2 : ((2 ^ 64 - 1 - a : Nat) : Int) = 18446744073709551615 - (a : Int) := by omega
  rw [e2]
  simp [IntKind.wrap, IntKind.bits, IntKind.signed]
  omega
theorem bits_and1 (x : Nat) (h : x < 18446744073709551616) : bits .and .u64 (x : Int) 1 = ((x % 2 : Nat) : Int) := by
  have := u64_and_nat x 1 h (by omega)
  rw [nat_mask1] at this
  exact this
end Go.Proofs.Ytmodaihngcnlfaa.Leb

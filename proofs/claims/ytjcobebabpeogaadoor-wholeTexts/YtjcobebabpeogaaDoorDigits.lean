/- The contract of the reference's Text, and what Text and Parse make of each other: plain. -/
import Derived.Test.YtjcobebabpeogaaDoorAwake
import Derived.Test.YtjcobebabpeogaaDoorRead
namespace Go.Proofs.YtjcobebabpeogaaDoor.Base
set_option linter.unusedVariables false
open Go.ChangeShapes Go.WideShapes Go.ChangeAt Go.RowKit Go.Proofs.YtjcobebabpeogaaDoor.Sums

/-- Bytes as cells. -/
def cellsL (l : List UInt8) : List Value := l.map fun c => Value.int .u8 (c.toNat : Int)
theorem cellsL_length (l : List UInt8) : (cellsL l).length = l.length := List.length_map _
/-- The length of a slice. -/
def slen : Value → Nat | .slice _ n _ => n | _ => 0
/-- The last digit of X, as a byte. -/
def dig (X : Nat) : UInt8 := UInt8.ofNat (48 + X % 10)
theorem dig_toNat (X : Nat) : ((dig X).toNat : Int) = 48 + (X : Int) % 10 := by
  have : (dig X).toNat = 48 + X % 10 := by
    unfold dig
    rw [UInt8.toNat_ofNat']
    exact Nat.mod_eq_of_lt (by omega)
  rw [this]; omega
/-- What is written so far (L), and what is left (X), of N's digits. -/
def Wrote (N X : Nat) (L : List UInt8) : Prop := (L = [] ∧ X = N) ∨ (L ≠ [] ∧ (X = 0 → L = Lib.decDigits N) ∧ (0 < X → Lib.decDigits X ++ L = Lib.decDigits N))
theorem Wrote.start (N : Nat) : Wrote N N [] := .inl ⟨rfl, rfl⟩
theorem Wrote.step {N X : Nat} {L : List UInt8} (h : Wrote N X L) (hx : L = [] ∨ 0 < X) : Wrote N (X / 10) (dig X :: L) := by
  refine .inr ⟨by simp, fun h0 => ?_, fun h0 => ?_⟩
  · have hlt : X < 10 := by omega
    have ed : Lib.decDigits X = [dig X] := by rw [Lib.decDigits_one hlt, dig, Nat.mod_eq_of_lt hlt]
    rcases h with ⟨rfl, rfl⟩ | ⟨hl, _, h2⟩
    · rw [ed]
    · have := h2 (by rcases hx with h | h; exact absurd h hl; exact h)
      rw [ed] at this
      exact this
  · have ed : Lib.decDigits X = Lib.decDigits (X / 10) ++ [dig X] := by rw [Lib.decDigits, dif_neg (by omega)]; rfl
    rcases h with ⟨rfl, rfl⟩ | ⟨hl, _, h2⟩
    · rw [ed]
    · have := h2 (by omega)
      rw [ed, List.append_assoc] at this
      exact this
theorem Wrote.done {N : Nat} {L : List UInt8} (h : Wrote N 0 L) (hl : L ≠ []) : L = Lib.decDigits N := by
  rcases h with ⟨h, _⟩ | ⟨_, h1, _⟩
  · exact absurd h hl
  · exact h1 rfl
theorem nDigits_le {N k : Nat} (hk : 1 ≤ k) (h : N < 10 ^ k) : Lib.nDigits N ≤ k := by
  induction k generalizing N with
  | zero => omega
  | succ k ih =>
    by_cases hlt : N < 10
    · rw [Lib.nDigits_small hlt]; omega
    · rw [Lib.nDigits_big hlt]
      have : N / 10 < 10 ^ k := by rw [Nat.pow_succ] at h; omega
      by_cases hk0 : k = 0
      · subst hk0; simp at this; omega
      · have := ih (by omega) this
        omega
theorem Wrote.length {N X : Nat} {L : List UInt8} (h : Wrote N X L) (hN : N ≤ 9223372036854775808) : L.length ≤ 20 := by
  have hd : (Lib.decDigits N).length ≤ 20 := by rw [Lib.decDigits_length]; exact nDigits_le (by omega) (by omega)
  rcases h with ⟨rfl, _⟩ | ⟨hl, h1, h2⟩
  · simp
  · by_cases hx : X = 0
    · rw [h1 hx]; exact hd
    · have := h2 (by omega)
      rw [← this, List.length_append] at hd
      omega
theorem built (w wr : World) (hb : Below w.heap.size w wr) (x : Int) :
    (wr.alloc (.cells #[.int .u8 x] 5)).ownsRow w.heap.size 5 1 (.slice (some ⟨wr.heap.size, 0, none⟩) 1 1) 1 [.int .u8 x] :=
  ⟨rfl, .inr ⟨wr.heap.size, 1, #[.int .u8 x], rfl, hb.size, heap_alloc_new wr _, Nat.le_refl _, by unfold maxLen; omega, rfl, rfl⟩⟩
end Go.Proofs.YtjcobebabpeogaaDoor.Base

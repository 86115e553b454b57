/- Numbers in few bytes, plainly: the bytes of a number, the number of bytes, and what each makes of the other. -/
import Derived.Test.YtgknjjaemjkloaaProg
import Derived.WalkKit
import Derived.ProofKit
import Derived.OpenShut
import Derived.Below
namespace Go.Proofs.Ytgknjjaemjkloaa.Leb
set_option linter.unusedVariables false

/-- The bytes of a number, seven bits a byte, the low ones first. -/
def putL (x : Nat) : List UInt8 := if x < 128 then [UInt8.ofNat x] else UInt8.ofNat (128 + x % 128) :: putL (x / 128)
  termination_by x
  decreasing_by omega
/-- The number whose bytes go on (i bytes, worth acc, are behind; they began at the place s): number, place, error. -/
def takeGo (s : Nat) : List UInt8 → Nat → Nat → Nat × Nat × Nat
  | [], _, _ => (0, 0, 200)
  | c :: r, i, acc =>
    if i = 9 ∧ 1 < c.toNat then (0, 0, 201)
    else if 0 < i ∧ c.toNat = 0 then (0, 0, 201)
    else if c.toNat < 128 then (acc + c.toNat * 2 ^ (7 * i), s + i + 1, 0)
    else takeGo s r (i + 1) (acc + c.toNat % 128 * 2 ^ (7 * i))
/-- What Take answers. -/
def tk (L : List UInt8) (s : Int) : Nat × Nat × Nat := if 0 ≤ s ∧ s ≤ L.length then takeGo s.toNat (L.drop s.toNat) 0 0 else (0, 0, 200)
/-- A whole as a number, and back. -/
def zig (y : Int) : Nat := if y < 0 then (-2 * y - 1).toNat else (2 * y).toNat
def unz (x : Nat) : Int := if x % 2 = 0 then ((x / 2 : Nat) : Int) else -((x / 2 : Nat) : Int) - 1

theorem putL_small {x : Nat} (h : x < 128) : putL x = [UInt8.ofNat x] := by rw [putL, if_pos h]
theorem putL_big {x : Nat} (h : ¬ x < 128) : putL x = UInt8.ofNat (128 + x % 128) :: putL (x / 128) := by rw [putL, if_neg h]
theorem byte_of {n : Nat} (h : n < 256) : (UInt8.ofNat n).toNat = n := by rw [UInt8.toNat_ofNat']; exact Nat.mod_eq_of_lt h
theorem putL_ne (x : Nat) : putL x ≠ [] := by by_cases h : x < 128; · rw [putL_small h]; simp
                                              · rw [putL_big h]; simp
theorem putL_pos (x : Nat) : 1 ≤ (putL x).length := by
  have := putL_ne x
  cases h : putL x with
  | nil => exact absurd h this
  | cons => simp
theorem putL_le (k : Nat) : ∀ {x : Nat}, x < 128 ^ (k + 1) → (putL x).length ≤ k + 1 := by
  induction k with
  | zero => intro x h; rw [putL_small (by simpa using h)]; simp
  | succ k ih =>
    intro x h
    by_cases hx : x < 128
    · rw [putL_small hx]; simp
    · rw [putL_big hx, List.length_cons]
      have : x / 128 < 128 ^ (k + 1) := by rw [Nat.div_lt_iff_lt_mul (by omega)]; rw [Nat.pow_succ] at h; exact h
      have := ih this
      omega
theorem putL_len {x : Nat} (h : x < 18446744073709551616) : (putL x).length ≤ 10 := putL_le 9 (by omega)
theorem putL_mono : ∀ (n : Nat) {x y : Nat}, x ≤ n → x ≤ y → (putL x).length ≤ (putL y).length := by
  intro n
  induction n with
  | zero => intro x y hn _; obtain rfl : x = 0 := by omega
            rw [putL_small (by omega)]; exact putL_pos y
  | succ n ih =>
    intro x y hn h
    by_cases hx : x < 128
    · rw [putL_small hx]; exact putL_pos y
    · rw [putL_big hx, putL_big (x := y) (by omega), List.length_cons, List.length_cons]
      have := ih (x := x / 128) (y := y / 128) (by omega) (by omega)
      omega
theorem pow_step (i : Nat) : 2 ^ (7 * (i + 1)) = 2 ^ (7 * i) * 128 := by rw [Nat.mul_add, Nat.pow_add]
theorem takeGo_err (s : Nat) (L : List UInt8) : ∀ (i acc : Nat), (takeGo s L i acc).2.2 ≠ 0 → takeGo s L i acc = (0, 0, 200) ∨ takeGo s L i acc = (0, 0, 201) := by
  induction L with
  | nil => intro i acc _; exact .inl rfl
  | cons c r ih =>
    intro i acc h
    unfold takeGo at h ⊢
    split
    · exact .inr rfl
    · rename_i h1
      rw [if_neg h1] at h
      split
      · exact .inr rfl
      · rename_i h2
        rw [if_neg h2] at h
        split
        · rename_i h3; rw [if_pos h3] at h; exact absurd rfl h
        · rename_i h3; rw [if_neg h3] at h; exact ih _ _ h
/-- Take of Put. -/
theorem takeGo_put (s : Nat) (R : List UInt8) : ∀ (n x i acc : Nat), x ≤ n → 2 ^ (7 * i) * x < 18446744073709551616 → (i = 0 ∨ 0 < x) → takeGo s (putL x ++ R) i acc = (acc + x * 2 ^ (7 * i), s + i + (putL x).length, 0) := by
  intro n
  induction n with
  | zero =>
    intro x i acc hn hb hi
    obtain rfl : x = 0 := by omega
    obtain rfl : i = 0 := by omega
    rw [putL_small (by omega)]
    simp [takeGo]
  | succ n ih =>
    intro x i acc hn hb hi
    have h9 : i = 9 → x ≤ 1 := by rintro rfl; omega
    by_cases hx : x < 128
    · rw [putL_small hx]
      have e : (UInt8.ofNat x).toNat = x := byte_of (by omega)
      rw [List.cons_append, takeGo, e, if_neg (by omega), if_neg (by omega), if_pos hx]
      simp
    · have e : (UInt8.ofNat (128 + x % 128)).toNat = 128 + x % 128 := byte_of (by omega)
      rw [putL_big hx, List.cons_append, takeGo, e, if_neg (by omega), if_neg (by omega), if_neg (by omega)]
      have hd : 2 ^ (7 * i) * 128 * (x / 128) ≤ 2 ^ (7 * i) * x := by rw [Nat.mul_assoc]; exact Nat.mul_le_mul_left _ (by omega)
      rw [ih (x / 128) (i + 1) _ (by omega) (by rw [pow_step]; omega) (by omega)]
      have hm : (128 + x % 128) % 128 = x % 128 := by omega
      have hs : x * 2 ^ (7 * i) = x % 128 * 2 ^ (7 * i) + x / 128 * (2 ^ (7 * i) * 128) := by
        have : x = x % 128 + x / 128 * 128 := by omega
        conv => lhs; rw [this]
        rw [Nat.add_mul, Nat.mul_assoc (x / 128), Nat.mul_comm 128]
      rw [pow_step, hm, hs, List.length_cons]
      simp only [Prod.mk.injEq, and_true]
      omega
theorem takeGo_cons (s : Nat) (c : UInt8) (r : List UInt8) (i acc : Nat) : takeGo s (c :: r) i acc = if i = 9 ∧ 1 < c.toNat then (0, 0, 201)
    else if 0 < i ∧ c.toNat = 0 then (0, 0, 201)
    else if c.toNat < 128 then (acc + c.toNat * 2 ^ (7 * i), s + i + 1, 0)
    else takeGo s r (i + 1) (acc + c.toNat % 128 * 2 ^ (7 * i)) := rfl
/-- Put of Take, and what is cut. -/
theorem takeGo_back (s : Nat) (L : List UInt8) : ∀ (i acc : Nat), (takeGo s L i acc).2.2 = 0 →
    ∃ n x, 1 ≤ n ∧ n ≤ L.length ∧ (takeGo s L i acc).2.1 = s + i + n ∧ (takeGo s L i acc).1 = acc + x * 2 ^ (7 * i) ∧ putL x = L.take n ∧ (0 < i → 0 < x) ∧ takeGo s (L.take (n - 1)) i acc = (0, 0, 200) := by
  induction L with
  | nil => intro i acc h; simp [takeGo] at h
  | cons c r ih =>
    intro i acc h
    rw [takeGo_cons] at h ⊢
    split at h
    · simp at h
    · rename_i h1
      split at h
      · simp at h
      · rename_i h2
        split at h
        · rename_i h3
          refine ⟨1, c.toNat, by omega, by simp, ?_, ?_, ?_, by omega, rfl⟩
          · rw [if_neg h1, if_neg h2, if_pos h3]
          · rw [if_neg h1, if_neg h2, if_pos h3]
          · rw [putL_small h3]; simp
        · rename_i h3
          obtain ⟨n, x, hn, hl, e1, e2, e3, e4, e5⟩ := ih _ _ h
          have hc : c.toNat < 256 := c.toNat_lt
          have hx := e4 (by omega)
          refine ⟨n + 1, c.toNat % 128 + x * 128, by omega, by simp; omega, ?_, ?_, ?_, by omega, ?_⟩
          · rw [if_neg h1, if_neg h2, if_neg h3, e1]; omega
          · rw [if_neg h1, if_neg h2, if_neg h3, e2, pow_step, Nat.add_mul, Nat.mul_assoc x, Nat.mul_comm 128]; omega
          · rw [putL_big (by omega)]
            have ha : (c.toNat % 128 + x * 128) / 128 = x := by omega
            have hb : 128 + (c.toNat % 128 + x * 128) % 128 = c.toNat := by omega
            rw [ha, hb, e3]
            simp
          · have e : (c :: r).take (n + 1 - 1) = c :: r.take (n - 1) := by
              obtain ⟨m, rfl⟩ : ∃ m, n = m + 1 := ⟨n - 1, by omega⟩
              simp
            rw [e, takeGo_cons, if_neg h1, if_neg h2, if_neg h3, e5]
/-- What is taken fits 64 bits. -/
theorem takeGo_lt (s : Nat) (L : List UInt8) : ∀ (i acc : Nat), i ≤ 9 → acc < 2 ^ (7 * i) → (takeGo s L i acc).1 < 18446744073709551616 := by
  induction L with
  | nil => intro i acc _ _; simp [takeGo]
  | cons c r ih =>
    intro i acc hi ha
    unfold takeGo
    split
    · simp
    · rename_i h1
      split
      · simp
      · rename_i h2
        split
        · rename_i h3
          by_cases h9 : i = 9
          · subst h9; simp only; omega
          · have h4 : 2 ^ (7 * i) ≤ 2 ^ 56 := Nat.pow_le_pow_right (by omega) (by omega)
            have : c.toNat * 2 ^ (7 * i) ≤ 127 * 2 ^ 56 := Nat.mul_le_mul (by omega) h4
            simp only
            omega
        · rename_i h3
          have hc : c.toNat % 128 ≤ 127 := by omega
          have h5 : c.toNat % 128 * 2 ^ (7 * i) ≤ 127 * 2 ^ (7 * i) := Nat.mul_le_mul_right _ hc
          exact ih _ _ (by omega) (by rw [pow_step]; omega)
theorem tk_lt (L : List UInt8) (s : Int) : (tk L s).1 < 18446744073709551616 := by
  unfold tk
  split
  · exact takeGo_lt _ _ _ _ (by omega) (by simp)
  · simp
theorem tk_err {L : List UInt8} {s : Int} (h : (tk L s).2.2 ≠ 0) : tk L s = (0, 0, 200) ∨ tk L s = (0, 0, 201) := by
  unfold tk at h ⊢
  split
  · rename_i hs; rw [if_pos hs] at h; exact takeGo_err _ _ _ _ h
  · exact .inl rfl
theorem tk_put {x : Nat} (h : x < 18446744073709551616) : tk (putL x) 0 = (x, (putL x).length, 0) := by
  have := takeGo_put 0 [] x x 0 0 (Nat.le_refl _) (by simpa using h) (.inl rfl)
  simp only [List.append_nil] at this
  unfold tk
  rw [if_pos (by omega)]
  simpa using this
theorem tk_back {L : List UInt8} {s : Int} (h : (tk L s).2.2 = 0) :
    ∃ n : Nat, 0 ≤ s ∧ 1 ≤ n ∧ s.toNat + n ≤ L.length ∧ (tk L s).2.1 = s.toNat + n ∧ putL (tk L s).1 = (L.drop s.toNat).take n ∧ tk (L.take (s.toNat + n - 1)) s = (0, 0, 200) := by
  by_cases hs : 0 ≤ s ∧ s ≤ L.length
  · have e : tk L s = takeGo s.toNat (L.drop s.toNat) 0 0 := by unfold tk; rw [if_pos hs]
    rw [e] at h ⊢
    obtain ⟨n, x, hn, hl, e1, e2, e3, e4, e5⟩ := takeGo_back _ _ _ _ h
    rw [List.length_drop] at hl
    refine ⟨n, hs.1, hn, by omega, by simpa using e1, by rw [e2]; simpa using e3, ?_⟩
    unfold tk
    rw [if_pos ⟨hs.1, by rw [List.length_take]; omega⟩]
    have : (L.take (s.toNat + n - 1)).drop s.toNat = (L.drop s.toNat).take (n - 1) := by rw [List.drop_take]; congr 1; omega
    rw [this, e5]
  · exfalso
    unfold tk at h
    rw [if_neg hs] at h
    simp at h
theorem zig_lt {y : Int} (h0 : -9223372036854775808 ≤ y) (h1 : y ≤ 9223372036854775807) : zig y < 18446744073709551616 := by unfold zig; split <;> omega
theorem unz_zig (y : Int) : unz (zig y) = y := by unfold zig unz; split <;> split <;> omega
theorem unz_bounds {x : Nat} (h : x < 18446744073709551616) : -9223372036854775808 ≤ unz x ∧ unz x ≤ 9223372036854775807 := by unfold unz; split <;> omega
end Go.Proofs.Ytgknjjaemjkloaa.Leb

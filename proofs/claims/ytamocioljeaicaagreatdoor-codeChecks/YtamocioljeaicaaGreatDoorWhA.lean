/- Contracts of sums, products, quotients and shifts of package whole. -/
import Derived.Test.YtamocioljeaicaaGreatDoorShelf
import Derived.Test.YtamocioljeaicaaGreatDoorSums
import Derived.WalkKit
import Derived.ProofKit
import Derived.OpenShut
import Derived.WalkLawsBesides
namespace Go.Proofs.YtamocioljeaicaaGreatDoor.WhA
open Go.ChangeShapes Go.WideShapes Go.ChangeAt Go.RowKit Go.Proofs.YtamocioljeaicaaGreatDoor.Sums
set_option linter.unusedVariables false

theorem wsize (a : Int) (h0 : -9223372036854775808 ≤ a) (h1 : a ≤ 9223372036854775807) (w : World) :
    Calls Tryz.prog 86 #[.int .i64 a] w fun e w' => e = .returned (.int .u64 (a.natAbs : Int)) ∧ w' = w := by
  by_cases c : a < 0
  · go_enter Tryz.func86, Tryz.ntmps86
    go_wp2
    go_ret
    exact ⟨ret1 (by simp only [IntKind.wrap_u64]; omega), rfl⟩
  · go_enter Tryz.func86, Tryz.ntmps86
    go_wp2
    go_ret
    exact ⟨ret1 (by omega), rfl⟩
theorem withSign (m : Int) (below : Bool) (h0 : 0 ≤ m) (h1 : m ≤ 18446744073709551615) (w : World) :
    Calls Tryz.prog 87 #[.int .u64 m, .bool below] w fun e w' => e = .returned (.tuple #[.int .i64 (num (sg below m)), .int .i64 (err (sg below m))]) ∧ w' = w := by
  cases below
  · by_cases c : m ≤ 9223372036854775807
    · go_enter Tryz.func87, Tryz.ntmps87
      go_wp2
      go_ret2
      rw [sg_false, num_in (by omega) (by omega), err_in (by omega) (by omega)]
      exact ⟨rfl, rfl⟩
    · go_enter Tryz.func87, Tryz.ntmps87
      go_wp2
      go_ret2
      rw [sg_false, num_out (by omega), err_out (by omega)]
      exact ⟨rfl, rfl⟩
  · by_cases c : m ≤ 9223372036854775808
    · go_enter Tryz.func87, Tryz.ntmps87
      go_wp2
      go_ret2
      rw [sg_true, num_in (by omega) (by omega), err_in (by omega) (by omega)]
      exact ⟨ret2 (by simp only [IntKind.wrap_u64]; unfold wrap64; omega) rfl, rfl⟩
    · go_enter Tryz.func87, Tryz.ntmps87
      go_wp2
      go_ret2
      rw [sg_true, num_out (by omega), err_out (by omega)]
      exact ⟨rfl, rfl⟩
theorem add (a b : Int) (a0 : -9223372036854775808 ≤ a) (a1 : a ≤ 9223372036854775807) (b0 : -9223372036854775808 ≤ b) (b1 : b ≤ 9223372036854775807) (w : World) :
    Calls Tryz.prog 69 #[.int .i64 a, .int .i64 b] w fun e w' => e = .returned (.tuple #[.int .i64 (num (a + b)), .int .i64 (err (a + b))]) ∧ w' = w := by
  have t := add_test a0 a1 b0 b1
  by_cases c : bits .and .i64 (bits .xor .i64 a (wrap64 (a + b))) (bits .xor .i64 b (wrap64 (a + b))) < 0
  · have c' := t.mp c
    rw [num_out c', err_out c']
    clear t c' a0 a1 b0 b1
    go_enter Tryz.func69, Tryz.ntmps69
    go_wp2
    go_ret2
    exact ⟨rfl, rfl⟩
  · have c' := fun h => c (t.mpr h)
    have e := wrap64_in' c'
    rw [num_in (by omega) (by omega), err_in (by omega) (by omega), ← e]
    clear t c' a0 a1 b0 b1 e
    go_enter Tryz.func69, Tryz.ntmps69
    go_wp2
    go_ret2
    exact ⟨rfl, rfl⟩
theorem sub (a b : Int) (a0 : -9223372036854775808 ≤ a) (a1 : a ≤ 9223372036854775807) (b0 : -9223372036854775808 ≤ b) (b1 : b ≤ 9223372036854775807) (w : World) :
    Calls Tryz.prog 67 #[.int .i64 a, .int .i64 b] w fun e w' => e = .returned (.tuple #[.int .i64 (num (a - b)), .int .i64 (err (a - b))]) ∧ w' = w := by
  have t := sub_test a0 a1 b0 b1
  by_cases c : bits .and .i64 (bits .xor .i64 a b) (bits .xor .i64 a (wrap64 (a - b))) < 0
  · have c' := t.mp c
    rw [num_out c', err_out c']
    clear t c' a0 a1 b0 b1
    go_enter Tryz.func67, Tryz.ntmps67
    go_wp2
    go_ret2
    exact ⟨rfl, rfl⟩
  · have c' := fun h => c (t.mpr h)
    have e := wrap64_in' c'
    rw [num_in (by omega) (by omega), err_in (by omega) (by omega), ← e]
    clear t c' a0 a1 b0 b1 e
    go_enter Tryz.func67, Tryz.ntmps67
    go_wp2
    go_ret2
    exact ⟨rfl, rfl⟩
theorem isShift (k : Int) (w : World) :
    Calls Tryz.prog 88 #[.int .i64 k] w fun r w' => r = .returned (.bool (decide (0 ≤ k) && decide (k ≤ 63))) ∧ w' = w := by
  by_cases c : 0 ≤ k
  · by_cases d : k ≤ 63
    · go_enter Tryz.func88, Tryz.ntmps88
      go_wp2
      go_ret
      simp [c, d]
    · go_enter Tryz.func88, Tryz.ntmps88
      go_wp2
      go_ret
      simp [d]
  · go_enter Tryz.func88, Tryz.ntmps88
    go_wp2
    go_ret
    simp
    omega
theorem mul_zero (a b lo : Int) (sa sb : Bool) (a0 : -9223372036854775808 ≤ a) (a1 : a ≤ 9223372036854775807) (b0 : -9223372036854775808 ≤ b) (b1 : b ≤ 9223372036854775807)
    (l0 : 0 ≤ lo) (l1 : lo ≤ 18446744073709551615) (da : decide (a < 0) = sa) (db : decide (b < 0) = sb)
    (H : ∀ w, Calls Tryz.prog 85 #[.int .u64 (a.natAbs : Int), .int .u64 (b.natAbs : Int)] w fun e w' => e = .returned (.tuple #[.int .u64 0, .int .u64 lo]) ∧ w' = w) (w : World) :
    Calls Tryz.prog 70 #[.int .i64 a, .int .i64 b] w fun e w' => e = .returned (.tuple #[.int .i64 (num (sg (sa != sb) lo)), .int .i64 (err (sg (sa != sb) lo))]) ∧ w' = w := by
  go_enter Tryz.func70, Tryz.ntmps70
  go_wp2_with (first | (go_at_call 86; refine (wsize _ (by omega) (by omega) _).mono ?_; rintro e w' ⟨rfl, rfl⟩) | (go_at_call 85; refine (H _).mono ?_; rintro e w' ⟨rfl, rfl⟩) | (go_at_call 87; refine (withSign _ _ (by omega) (by omega) _).mono ?_; rintro e w' ⟨rfl, rfl⟩))
  go_ret2
  exact ⟨rfl, rfl⟩
theorem mul_pos (a b hi lo : Int) (a0 : -9223372036854775808 ≤ a) (a1 : a ≤ 9223372036854775807) (b0 : -9223372036854775808 ≤ b) (b1 : b ≤ 9223372036854775807)
    (h0 : 0 < hi)
    (H : ∀ w, Calls Tryz.prog 85 #[.int .u64 (a.natAbs : Int), .int .u64 (b.natAbs : Int)] w fun e w' => e = .returned (.tuple #[.int .u64 hi, .int .u64 lo]) ∧ w' = w) (w : World) :
    Calls Tryz.prog 70 #[.int .i64 a, .int .i64 b] w fun e w' => e = .returned (.tuple #[.int .i64 0, .int .i64 100]) ∧ w' = w := by
  go_enter Tryz.func70, Tryz.ntmps70
  go_wp2_with (first | (go_at_call 86; refine (wsize _ (by omega) (by omega) _).mono ?_; rintro e w' ⟨rfl, rfl⟩) | (go_at_call 85; refine (H _).mono ?_; rintro e w' ⟨rfl, rfl⟩))
  go_ret2
  exact ⟨rfl, rfl⟩
/-- A product by the parts' sizes and signs. -/
theorem prod_sign (a b : Int) : sg (decide (a < 0) != decide (b < 0)) ((a.natAbs * b.natAbs : Nat) : Int) = a * b := by
  have e : ((a.natAbs * b.natAbs : Nat) : Int) = (a.natAbs : Int) * (b.natAbs : Int) := by simp
  rw [e]
  rcases Int.natAbs_eq a with ha | ha <;> rcases Int.natAbs_eq b with hb | hb
  all_goals
    generalize hx : a.natAbs = x at *
    generalize hy : b.natAbs = y at *
    subst ha hb
    have px : 0 ≤ (x : Int) := Int.natCast_nonneg x
    have py : 0 ≤ (y : Int) := Int.natCast_nonneg y
    by_cases cx : (x : Int) = 0
    · simp [cx, sg]
    · by_cases cy : (y : Int) = 0
      · simp [cy, sg]
      · have d1 : decide (-(x : Int) < 0) = true := decide_eq_true (by omega)
        have d2 : decide ((x : Int) < 0) = false := decide_eq_false (by omega)
        have d3 : decide (-(y : Int) < 0) = true := decide_eq_true (by omega)
        have d4 : decide ((y : Int) < 0) = false := decide_eq_false (by omega)
        simp only [d1, d2, d3, d4, sg]
        grind
theorem mul (a b : Int) (a0 : -9223372036854775808 ≤ a) (a1 : a ≤ 9223372036854775807) (b0 : -9223372036854775808 ≤ b) (b1 : b ≤ 9223372036854775807) (w : World) :
    Calls Tryz.prog 70 #[.int .i64 a, .int .i64 b] w fun e w' => e = .returned (.tuple #[.int .i64 (num (a * b)), .int .i64 (err (a * b))]) ∧ w' = w := by
  have H := Tryz.bits_Mul64 a.natAbs b.natAbs (by omega) (by omega)
  have e := prod_sign a b
  by_cases c : a.natAbs * b.natAbs < 18446744073709551616
  · rw [Nat.div_eq_of_lt c, Nat.mod_eq_of_lt c] at H
    rw [← e]
    exact mul_zero a b _ _ _ a0 a1 b0 b1 (by omega) (by omega) rfl rfl H w
  · have hout : a * b < -9223372036854775808 ∨ 9223372036854775807 < a * b := by
      rw [← e]
      generalize (decide (a < 0) != decide (b < 0)) = s
      cases s
      · rw [sg_false]; omega
      · rw [sg_true]; omega
    rw [num_out hout, err_out hout]
    refine mul_pos a b _ _ a0 a1 b0 b1 ?_ H w
    have := Nat.div_pos (Nat.le_of_not_lt c) (by omega)
    omega
/-! ### Plain numbers -/
theorem quot_sign (a b : Int) : sg (decide (a < 0) != decide (b < 0)) ((a.natAbs : Int) / (b.natAbs : Int)) = a.tdiv b := by
  rcases Int.natAbs_eq a with ha | ha <;> rcases Int.natAbs_eq b with hb | hb
  all_goals
    generalize hx : a.natAbs = x at *
    generalize hy : b.natAbs = y at *
    subst ha hb
    have px : 0 ≤ (x : Int) := Int.natCast_nonneg x
    have py : 0 ≤ (y : Int) := Int.natCast_nonneg y
    have e := Int.tdiv_eq_ediv_of_nonneg (b := (y : Int)) px
    by_cases cx : (x : Int) = 0
    · simp [cx, sg]
    · by_cases cy : (y : Int) = 0
      · simp [cy, sg]
      · have d1 : decide (-(x : Int) < 0) = true := decide_eq_true (by omega)
        have d2 : decide ((x : Int) < 0) = false := decide_eq_false (by omega)
        have d3 : decide (-(y : Int) < 0) = true := decide_eq_true (by omega)
        have d4 : decide ((y : Int) < 0) = false := decide_eq_false (by omega)
        simp only [d1, d2, d3, d4, sg, Int.neg_tdiv, Int.tdiv_neg, e]
        simp
theorem rem_sign (a b : Int) : sg (decide (a < 0)) ((a.natAbs : Int) % (b.natAbs : Int)) = a.tmod b := by
  rcases Int.natAbs_eq a with ha | ha <;> rcases Int.natAbs_eq b with hb | hb
  all_goals
    generalize hx : a.natAbs = x at *
    generalize hy : b.natAbs = y at *
    subst ha hb
    have px : 0 ≤ (x : Int) := Int.natCast_nonneg x
    have e := Int.tmod_eq_emod_of_nonneg (b := (y : Int)) px
    by_cases cx : (x : Int) = 0
    · simp [cx, sg]
    · have d1 : decide (-(x : Int) < 0) = true := decide_eq_true (by omega)
      have d2 : decide ((x : Int) < 0) = false := decide_eq_false (by omega)
      simp only [d1, d2, sg, Int.neg_tmod, Int.tmod_neg, e]
      simp
theorem tdiv_range {a b : Int} (a0 : -9223372036854775808 ≤ a) (a1 : a ≤ 9223372036854775807) (cb : b ≠ 0) (cm : ¬ (a = -9223372036854775808 ∧ b = -1)) :
    -9223372036854775808 ≤ a.tdiv b ∧ a.tdiv b ≤ 9223372036854775807 := by
  by_cases c1 : b = 1
  · subst c1; simp; omega
  · by_cases c2 : b = -1
    · subst c2
      rw [Int.tdiv_neg, Int.tdiv_one]
      omega
    · rw [← quot_sign]
      have h : a.natAbs / b.natAbs ≤ a.natAbs / 2 := Nat.div_le_div_left (by omega) (by omega)
      have h' : (a.natAbs : Int) / (b.natAbs : Int) = ((a.natAbs / b.natAbs : Nat) : Int) := by simp
      rw [h']
      generalize a.natAbs / b.natAbs = q at *
      generalize (decide (a < 0) != decide (b < 0)) = s
      cases s
      · rw [sg_false]; omega
      · rw [sg_true]; omega
theorem tmod_range {a : Int} (b : Int) (a0 : -9223372036854775808 ≤ a) (a1 : a ≤ 9223372036854775807) :
    -9223372036854775808 ≤ a.tmod b ∧ a.tmod b ≤ 9223372036854775807 := by
  rw [← rem_sign]
  have h : a.natAbs % b.natAbs ≤ a.natAbs := Nat.mod_le _ _
  have h' : (a.natAbs : Int) % (b.natAbs : Int) = ((a.natAbs % b.natAbs : Nat) : Int) := by simp
  rw [h']
  by_cases c : a < 0
  · rw [decide_eq_true c, sg_true]; omega
  · rw [decide_eq_false c, sg_false]; omega
def dnum (a b : Int) : Int := if b = 0 then 0 else num (a.tdiv b)
def derr (a b : Int) : Int := if b = 0 then 101 else err (a.tdiv b)
def mnum (a b : Int) : Int := if b = 0 then 0 else a.tmod b
def merr (b : Int) : Int := if b = 0 then 101 else 0
/-! ### Div, Mod -/
theorem div_zero (a : Int) (w : World) :
    Calls Tryz.prog 71 #[.int .i64 a, .int .i64 0] w fun e w' => e = .returned (.tuple #[.int .i64 0, .int .i64 101]) ∧ w' = w := by
  go_enter Tryz.func71, Tryz.ntmps71
  go_wp2
  go_ret2
  exact ⟨rfl, rfl⟩
theorem div_over (w : World) :
    Calls Tryz.prog 71 #[.int .i64 (-9223372036854775808), .int .i64 (-1)] w fun e w' => e = .returned (.tuple #[.int .i64 0, .int .i64 100]) ∧ w' = w := by
  go_enter Tryz.func71, Tryz.ntmps71
  go_wp2
  go_ret2
  exact ⟨rfl, rfl⟩
theorem div_ok (a b : Int) (cb : b ≠ 0) (cm : ¬ (a = -9223372036854775808 ∧ b = -1)) (w : World) :
    Calls Tryz.prog 71 #[.int .i64 a, .int .i64 b] w fun e w' => e = .returned (.tuple #[.int .i64 (wrap64 (a.tdiv b)), .int .i64 0]) ∧ w' = w := by
  by_cases c : a = -9223372036854775808
  · have c2 : b ≠ -1 := fun h => cm ⟨c, h⟩
    clear cm
    subst c
    go_enter Tryz.func71, Tryz.ntmps71
    go_wp2
    go_ret2
    exact ⟨ret2 (by rw [Int.neg_tdiv]) rfl, rfl⟩
  · clear cm
    go_enter Tryz.func71, Tryz.ntmps71
    go_wp2
    go_ret2
    exact ⟨rfl, rfl⟩
theorem div (a b : Int) (a0 : -9223372036854775808 ≤ a) (a1 : a ≤ 9223372036854775807) (w : World) :
    Calls Tryz.prog 71 #[.int .i64 a, .int .i64 b] w fun e w' => e = .returned (.tuple #[.int .i64 (dnum a b), .int .i64 (derr a b)]) ∧ w' = w := by
  unfold dnum derr
  by_cases cb : b = 0
  · subst cb
    exact div_zero a w
  · rw [if_neg cb, if_neg cb]
    by_cases cm : a = -9223372036854775808 ∧ b = -1
    · obtain ⟨rfl, rfl⟩ := cm
      have e : Int.tdiv (-9223372036854775808) (-1) = 9223372036854775808 := by decide
      rw [e, num_out (by omega), err_out (by omega)]
      exact div_over w
    · have r := tdiv_range a0 a1 cb cm
      have h := div_ok a b cb cm w
      rw [wrap64_in' (by omega)] at h
      rw [num_in r.1 r.2, err_in r.1 r.2]
      exact h
theorem mod_zero (a : Int) (w : World) :
    Calls Tryz.prog 72 #[.int .i64 a, .int .i64 0] w fun e w' => e = .returned (.tuple #[.int .i64 0, .int .i64 101]) ∧ w' = w := by
  go_enter Tryz.func72, Tryz.ntmps72
  go_wp2
  go_ret2
  exact ⟨rfl, rfl⟩
theorem mod_ok (a b : Int) (cb : b ≠ 0) (w : World) :
    Calls Tryz.prog 72 #[.int .i64 a, .int .i64 b] w fun e w' => e = .returned (.tuple #[.int .i64 (a.tmod b), .int .i64 0]) ∧ w' = w := by
  go_enter Tryz.func72, Tryz.ntmps72
  go_wp2
  go_ret2
  exact ⟨rfl, rfl⟩
theorem mod (a b : Int) (w : World) :
    Calls Tryz.prog 72 #[.int .i64 a, .int .i64 b] w fun e w' => e = .returned (.tuple #[.int .i64 (mnum a b), .int .i64 (merr b)]) ∧ w' = w := by
  unfold mnum merr
  by_cases cb : b = 0
  · subst cb
    exact mod_zero a w
  · rw [if_neg cb, if_neg cb]
    exact mod_ok a b cb w
/-- The test of 'Shl': shifting back makes a again just if nothing was lost. -/
theorem shl_back (a : Int) (j : Nat) (hj : j ≤ 63) : wrap64 (a * 2 ^ j) / 2 ^ j = a ↔ (-9223372036854775808 ≤ a * 2 ^ j ∧ a * 2 ^ j ≤ 9223372036854775807) := by
  have hm : (0 : Int) < 2 ^ j := Int.pow_pos (by omega)
  have hn : (2 : Int) ^ j * 2 ^ (64 - j) = 18446744073709551616 := by
    rw [← Int.pow_add, show j + (64 - j) = 64 by omega]; rfl
  have hn0 : (0 : Int) < 2 ^ (64 - j) := Int.pow_pos (by omega)
  generalize (2 : Int) ^ j = m at *
  generalize (2 : Int) ^ (64 - j) = n at *
  obtain ⟨q, hq, hb⟩ : ∃ q : Int, wrap64 (a * m) = a * m - 18446744073709551616 * q ∧ (q = 0 ↔ (-9223372036854775808 ≤ a * m ∧ a * m ≤ 9223372036854775807)) :=
    ⟨(a * m + 9223372036854775808) / 18446744073709551616, by unfold wrap64; omega, by omega⟩
  rw [← hb, hq, ← hn]
  have e : a * m - m * n * q = m * (a - n * q) := by grind
  rw [e, Int.mul_ediv_cancel_left _ (by omega)]
  constructor
  · intro h
    have : n * q = 0 := by omega
    rcases Int.mul_eq_zero.mp this with h | h
    · omega
    · exact h
  · intro h
    subst h
    omega
theorem shl_core (a k : Int) (k0 : 0 ≤ k) (k1 : k ≤ 63) (x e : Int) (hx : ((wrap64 (a * 2 ^ k.toNat) / 2 ^ k.toNat != a) = false ∧ x = wrap64 (a * 2 ^ k.toNat) ∧ e = 0) ∨ ((wrap64 (a * 2 ^ k.toNat) / 2 ^ k.toNat != a) = true ∧ x = 0 ∧ e = 100)) (w : World) :
    Calls Tryz.prog 73 #[.int .i64 a, .int .i64 k] w fun r w' => r = .returned (.tuple #[.int .i64 x, .int .i64 e]) ∧ w' = w := by
  have dk : (decide (0 ≤ k) && decide (k ≤ 63)) = true := by simp; omega
  rcases hx with ⟨c, rfl, rfl⟩ | ⟨c, rfl, rfl⟩
  · go_enter Tryz.func73, Tryz.ntmps73
    go_wp2_with (first | (go_at_call 88; refine (isShift _ _).mono ?_; rintro e w' ⟨rfl, rfl⟩))
    go_ret2
    exact ⟨rfl, rfl⟩
  · go_enter Tryz.func73, Tryz.ntmps73
    go_wp2_with (first | (go_at_call 88; refine (isShift _ _).mono ?_; rintro e w' ⟨rfl, rfl⟩))
    go_ret2
    exact ⟨rfl, rfl⟩
theorem shl (a k : Int) (k0 : 0 ≤ k) (k1 : k ≤ 63) (w : World) :
    Calls Tryz.prog 73 #[.int .i64 a, .int .i64 k] w fun e w' => e = .returned (.tuple #[.int .i64 (num (a * 2 ^ k.toNat)), .int .i64 (err (a * 2 ^ k.toNat))]) ∧ w' = w := by
  refine shl_core a k k0 k1 _ _ ?_ w
  have t := shl_back a k.toNat (by omega)
  by_cases c : wrap64 (a * 2 ^ k.toNat) / 2 ^ k.toNat = a
  · have r := t.mp c
    refine Or.inl ⟨by simp [c], ?_, err_in r.1 r.2⟩
    rw [num_in r.1 r.2, wrap64_in' (by omega)]
  · have r : ¬ _ := fun h => c (t.mpr h)
    exact Or.inr ⟨by simp [c], num_out (by omega), err_out (by omega)⟩
theorem shr (a k : Int) (k0 : 0 ≤ k) (k1 : k ≤ 63) (w : World) :
    Calls Tryz.prog 74 #[.int .i64 a, .int .i64 k] w fun e w' => e = .returned (.tuple #[.int .i64 (a / 2 ^ k.toNat), .int .i64 0]) ∧ w' = w := by
  have dk : (decide (0 ≤ k) && decide (k ≤ 63)) = true := by simp; omega
  go_enter Tryz.func74, Tryz.ntmps74
  go_wp2_with (first | (go_at_call 88; refine (isShift _ _).mono ?_; rintro e w' ⟨rfl, rfl⟩))
  go_ret2
  exact ⟨rfl, rfl⟩
theorem shl_bad (a k : Int) (hk : k < 0 ∨ 63 < k) (w : World) :
    Calls Tryz.prog 73 #[.int .i64 a, .int .i64 k] w fun e w' => e = .returned (.tuple #[.int .i64 0, .int .i64 102]) ∧ w' = w := by
  have dk : (decide (0 ≤ k) && decide (k ≤ 63)) = false := by simp; omega
  go_enter Tryz.func73, Tryz.ntmps73
  go_wp2_with (first | (go_at_call 88; refine (isShift _ _).mono ?_; rintro e w' ⟨rfl, rfl⟩))
  go_ret2
  exact ⟨rfl, rfl⟩
theorem shr_bad (a k : Int) (hk : k < 0 ∨ 63 < k) (w : World) :
    Calls Tryz.prog 74 #[.int .i64 a, .int .i64 k] w fun e w' => e = .returned (.tuple #[.int .i64 0, .int .i64 102]) ∧ w' = w := by
  have dk : (decide (0 ≤ k) && decide (k ≤ 63)) = false := by simp; omega
  go_enter Tryz.func74, Tryz.ntmps74
  go_wp2_with (first | (go_at_call 88; refine (isShift _ _).mono ?_; rintro e w' ⟨rfl, rfl⟩))
  go_ret2
  exact ⟨rfl, rfl⟩
theorem pow_bound {n : Nat} (hn : n ≤ 63) : (0 : Int) < 2 ^ n ∧ (2 : Int) ^ n ≤ 9223372036854775808 := by
  have h := Nat.pow_le_pow_right (show 0 < 2 by omega) hn
  have e : (2 : Int) ^ n = ((2 ^ n : Nat) : Int) := by simp
  exact ⟨Int.pow_pos (by omega), by rw [e]; omega⟩
theorem div_range {a m : Int} (a0 : -9223372036854775808 ≤ a) (a1 : a ≤ 9223372036854775807) (hm : 0 < m) : -9223372036854775808 ≤ a / m ∧ a / m ≤ 9223372036854775807 := by
  have hr0 := Int.emod_nonneg a (show m ≠ 0 by omega)
  have hr1 := Int.emod_lt_of_pos a hm
  have he := Int.mul_ediv_add_emod a m
  generalize a / m = q at *
  generalize a % m = r at *
  constructor
  · apply Int.le_of_not_gt
    intro h
    have : m * q ≤ m * (-9223372036854775809) := Int.mul_le_mul_of_nonneg_left (by omega) (by omega)
    omega
  · apply Int.le_of_not_gt
    intro h
    have : m * 9223372036854775808 ≤ m * q := Int.mul_le_mul_of_nonneg_left (by omega) (by omega)
    omega
end Go.Proofs.YtamocioljeaicaaGreatDoor.WhA

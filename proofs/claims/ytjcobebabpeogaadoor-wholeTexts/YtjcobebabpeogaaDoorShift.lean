/- Contracts of the shifts of packages whole and stencilref1. -/
import Derived.Test.YtjcobebabpeogaaDoorMul
namespace Go.Proofs.YtjcobebabpeogaaDoor.Base
set_option linter.unusedVariables false
open Go.ChangeShapes Go.WideShapes Go.ChangeAt Go.RowKit Go.Proofs.YtjcobebabpeogaaDoor.Sums

/-- The test of 'Shl': shifting back makes a again just if nothing was lost. -/
theorem shl_back (a : Int) (j : Nat) (hj : j ≤ 63) : wrap64 (a * 2 ^ j) / 2 ^ j = a ↔ (-9223372036854775808 ≤ a * 2 ^ j ∧ a * 2 ^ j ≤ 9223372036854775807) := by
  have hm : (0 : Int) < 2 ^ j := Int.pow_pos (by omega)
  have hn : (2 : Int) ^ j * 2 ^ (64 - j) = 18446744073709551616 := by
    rw [← Int.pow_add, show j + (64 - j) = 64 by omega]; rfl
  have hn0 : (0 : Int) < 2 ^ (64 - j) := Int.pow_pos (by omega)
  generalize (2 : Int) ^ j = m at *
  generalize (2 : Int) ^ (64 - j) = n at *
  obtain ⟨q, hq, hb⟩ : ∃ q : Int, wrap64 (a * m) = a * m - 18446744073709551616 * q ∧ (q = 0 ↔ (-9223372036854775808 ≤ a * m ∧ a * m ≤ 9223372036854775807)) :=
    ⟨(a * m + 9223372036854775808) / 18446744073709551616, by unfold wrap64; omega, by omega⟩
  rw [← hb, hq, ← hn]
  have e : a * m - m * n * q = m * (a - n * q) := by grind
  rw [e, Int.mul_ediv_cancel_left _ (by omega)]
  constructor
  · intro h
    have : n * q = 0 := by omega
    rcases Int.mul_eq_zero.mp this with h | h
    · omega
    · exact h
  · intro h
    subst h
    omega

theorem shl_core (a k : Int) (k0 : 0 ≤ k) (k1 : k ≤ 63) (x e : Int) (hx : ((wrap64 (a * 2 ^ k.toNat) / 2 ^ k.toNat != a) = false ∧ x = wrap64 (a * 2 ^ k.toNat) ∧ e = 0) ∨ ((wrap64 (a * 2 ^ k.toNat) / 2 ^ k.toNat != a) = true ∧ x = 0 ∧ e = 100)) (w : World) :
    Calls Tryd.prog 23 #[.int .i64 a, .int .i64 k] w fun r w' => r = .returned (.tuple #[.int .i64 x, .int .i64 e]) ∧ w' = w := by
  have dk : (decide (0 ≤ k) && decide (k ≤ 63)) = true := by simp; omega
  rcases hx with ⟨c, rfl, rfl⟩ | ⟨c, rfl, rfl⟩
  · go_enter Tryd.func23, Tryd.ntmps23
    go_wp2_with (first | (go_at_call 39; refine (isShift _ _).mono ?_; rintro e w' ⟨rfl, rfl⟩))
    go_ret2
    exact ⟨rfl, rfl⟩
  · go_enter Tryd.func23, Tryd.ntmps23
    go_wp2_with (first | (go_at_call 39; refine (isShift _ _).mono ?_; rintro e w' ⟨rfl, rfl⟩))
    go_ret2
    exact ⟨rfl, rfl⟩
theorem shl (a k : Int) (k0 : 0 ≤ k) (k1 : k ≤ 63) (w : World) :
    Calls Tryd.prog 23 #[.int .i64 a, .int .i64 k] w fun e w' => e = .returned (.tuple #[.int .i64 (num (a * 2 ^ k.toNat)), .int .i64 (err (a * 2 ^ k.toNat))]) ∧ w' = w := by
  refine shl_core a k k0 k1 _ _ ?_ w
  have t := shl_back a k.toNat (by omega)
  by_cases c : wrap64 (a * 2 ^ k.toNat) / 2 ^ k.toNat = a
  · have r := t.mp c
    refine Or.inl ⟨by simp [c], ?_, err_in r.1 r.2⟩
    rw [num_in r.1 r.2, wrap64_in' (by omega)]
  · have r : ¬ _ := fun h => c (t.mpr h)
    exact Or.inr ⟨by simp [c], num_out (by omega), err_out (by omega)⟩

theorem shr (a k : Int) (k0 : 0 ≤ k) (k1 : k ≤ 63) (w : World) :
    Calls Tryd.prog 24 #[.int .i64 a, .int .i64 k] w fun e w' => e = .returned (.tuple #[.int .i64 (a / 2 ^ k.toNat), .int .i64 0]) ∧ w' = w := by
  have dk : (decide (0 ≤ k) && decide (k ≤ 63)) = true := by simp; omega
  go_enter Tryd.func24, Tryd.ntmps24
  go_wp2_with (first | (go_at_call 39; refine (isShift _ _).mono ?_; rintro e w' ⟨rfl, rfl⟩))
  go_ret2
  exact ⟨rfl, rfl⟩

theorem shl_bad (a k : Int) (hk : k < 0 ∨ 63 < k) (w : World) :
    Calls Tryd.prog 23 #[.int .i64 a, .int .i64 k] w fun e w' => e = .returned (.tuple #[.int .i64 0, .int .i64 102]) ∧ w' = w := by
  have dk : (decide (0 ≤ k) && decide (k ≤ 63)) = false := by simp; omega
  go_enter Tryd.func23, Tryd.ntmps23
  go_wp2_with (first | (go_at_call 39; refine (isShift _ _).mono ?_; rintro e w' ⟨rfl, rfl⟩))
  go_ret2
  exact ⟨rfl, rfl⟩
theorem shr_bad (a k : Int) (hk : k < 0 ∨ 63 < k) (w : World) :
    Calls Tryd.prog 24 #[.int .i64 a, .int .i64 k] w fun e w' => e = .returned (.tuple #[.int .i64 0, .int .i64 102]) ∧ w' = w := by
  have dk : (decide (0 ≤ k) && decide (k ≤ 63)) = false := by simp; omega
  go_enter Tryd.func24, Tryd.ntmps24
  go_wp2_with (first | (go_at_call 39; refine (isShift _ _).mono ?_; rintro e w' ⟨rfl, rfl⟩))
  go_ret2
  exact ⟨rfl, rfl⟩
theorem rshl_bad (a k : Int) (hk : k < 0 ∨ 63 < k) (w : World) :
    Calls Tryd.prog 25 #[.int .i64 a, .int .i64 k] w fun e w' => e = .returned (.tuple #[.int .i64 0, .int .i64 102]) ∧ w' = w := by
  rcases hk with hk | hk
  all_goals
    go_enter Tryd.func25, Tryd.ntmps25
    go_wp2
    go_ret2
    exact ⟨rfl, rfl⟩
theorem rshr_bad (a k : Int) (hk : k < 0 ∨ 63 < k) (w : World) :
    Calls Tryd.prog 26 #[.int .i64 a, .int .i64 k] w fun e w' => e = .returned (.tuple #[.int .i64 0, .int .i64 102]) ∧ w' = w := by
  rcases hk with hk | hk
  all_goals
    go_enter Tryd.func26, Tryd.ntmps26
    go_wp2
    go_ret2
    exact ⟨rfl, rfl⟩

theorem pow_bound {n : Nat} (hn : n ≤ 63) : (0 : Int) < 2 ^ n ∧ (2 : Int) ^ n ≤ 9223372036854775808 := by
  have h := Nat.pow_le_pow_right (show 0 < 2 by omega) hn
  have e : (2 : Int) ^ n = ((2 ^ n : Nat) : Int) := by simp
  exact ⟨Int.pow_pos (by omega), by rw [e]; omega⟩
theorem ceil_floor (x m : Int) (hm : 0 < m) : -((x + m - 1) / m) = (-x) / m := by
  have hr0 := Int.emod_nonneg (-x) (show m ≠ 0 by omega)
  have hr1 := Int.emod_lt_of_pos (-x) hm
  have he := Int.mul_ediv_add_emod (-x) m
  generalize (-x) / m = q at *
  generalize (-x) % m = r at *
  have e : x + m - 1 = (m - 1 - r) + m * (-q) := by grind
  rw [e, Int.add_mul_ediv_left _ _ (by omega), Int.ediv_eq_zero_of_lt (by omega) (by omega)]
  omega

theorem rshr_pos (a k : Int) (a0 : 0 ≤ a) (a1 : a ≤ 9223372036854775807) (k0 : 0 ≤ k) (k1 : k ≤ 63) (p0 : (0 : Int) < 2 ^ k.toNat) (p1 : (2 : Int) ^ k.toNat ≤ 9223372036854775808)
    (q0 : 0 ≤ (a.natAbs : Int) / 2 ^ k.toNat) (q1 : (a.natAbs : Int) / 2 ^ k.toNat ≤ 9223372036854775807) (w : World) :
    Calls Tryd.prog 26 #[.int .i64 a, .int .i64 k] w fun e w' => e = .returned (.tuple #[.int .i64 (num (sg false ((a.natAbs : Int) / 2 ^ k.toNat))), .int .i64 (err (sg false ((a.natAbs : Int) / 2 ^ k.toNat)))]) ∧ w' = w := by
  go_enter Tryd.func26, Tryd.ntmps26
  go_wp2_with (first | (go_at_call 37; refine (rsize _ (by omega) (by omega) _).mono ?_; rintro e w' ⟨rfl, rfl⟩) | (go_at_call 38; refine (back0 _ _ (by omega) (by omega) _).mono ?_; rintro e w' ⟨rfl, rfl⟩))
  go_ret2
  exact ⟨rfl, rfl⟩
theorem rshr_neg (a k : Int) (a0 : -9223372036854775808 ≤ a) (a1 : a < 0) (k0 : 0 ≤ k) (k1 : k ≤ 63) (p0 : (0 : Int) < 2 ^ k.toNat) (p1 : (2 : Int) ^ k.toNat ≤ 9223372036854775808)
    (q0 : 0 ≤ ((a.natAbs : Int) + 2 ^ k.toNat - 1) / 2 ^ k.toNat) (q1 : ((a.natAbs : Int) + 2 ^ k.toNat - 1) / 2 ^ k.toNat ≤ 9223372036854775808)
    (hw : IntKind.u64.wrap (IntKind.u64.wrap ((a.natAbs : Int) + 2 ^ k.toNat) - 1) = (a.natAbs : Int) + 2 ^ k.toNat - 1) (w : World) :
    Calls Tryd.prog 26 #[.int .i64 a, .int .i64 k] w fun e w' => e = .returned (.tuple #[.int .i64 (num (sg true (((a.natAbs : Int) + 2 ^ k.toNat - 1) / 2 ^ k.toNat))), .int .i64 (err (sg true (((a.natAbs : Int) + 2 ^ k.toNat - 1) / 2 ^ k.toNat)))]) ∧ w' = w := by
  go_enter Tryd.func26, Tryd.ntmps26
  go_wp2_with (first | (go_at_call 37; refine (rsize _ (by omega) (by omega) _).mono ?_; rintro e w' ⟨rfl, rfl⟩) | (go_at_call 38; refine (back0 _ _ (by omega) (by omega) _).mono ?_; rintro e w' ⟨rfl, rfl⟩))
  go_ret2
  exact ⟨rfl, rfl⟩
theorem div_range {a m : Int} (a0 : -9223372036854775808 ≤ a) (a1 : a ≤ 9223372036854775807) (hm : 0 < m) : -9223372036854775808 ≤ a / m ∧ a / m ≤ 9223372036854775807 := by
  have hr0 := Int.emod_nonneg a (show m ≠ 0 by omega)
  have hr1 := Int.emod_lt_of_pos a hm
  have he := Int.mul_ediv_add_emod a m
  generalize a / m = q at *
  generalize a % m = r at *
  constructor
  · apply Int.le_of_not_gt
    intro h
    have : m * q ≤ m * (-9223372036854775809) := Int.mul_le_mul_of_nonneg_left (by omega) (by omega)
    omega
  · apply Int.le_of_not_gt
    intro h
    have : m * 9223372036854775808 ≤ m * q := Int.mul_le_mul_of_nonneg_left (by omega) (by omega)
    omega
theorem rshr (a k : Int) (a0 : -9223372036854775808 ≤ a) (a1 : a ≤ 9223372036854775807) (k0 : 0 ≤ k) (k1 : k ≤ 63) (w : World) :
    Calls Tryd.prog 26 #[.int .i64 a, .int .i64 k] w fun e w' => e = .returned (.tuple #[.int .i64 (a / 2 ^ k.toNat), .int .i64 0]) ∧ w' = w := by
  have p := pow_bound (n := k.toNat) (by omega)
  have r := div_range a0 a1 p.1
  rw [← num_in r.1 r.2, ← err_in r.1 r.2]
  by_cases c : 0 ≤ a
  · have e : (a.natAbs : Int) = a := by omega
    have h := rshr_pos a k c a1 k0 k1 p.1 p.2 (by rw [e]; exact Int.ediv_nonneg c (by omega)) (by rw [e]; exact r.2) w
    rw [e, sg_false] at h
    exact h
  · have e : (a.natAbs : Int) = -a := by omega
    have f := ceil_floor (-a) (2 ^ k.toNat) p.1
    rw [Int.neg_neg] at f
    have g : 0 ≤ (-a + 2 ^ k.toNat - 1) / 2 ^ k.toNat := Int.ediv_nonneg (by omega) (by omega)
    have h := rshr_neg a k a0 (by omega) k0 k1 p.1 p.2 (by rw [e]; exact g) (by rw [e]; omega) (by rw [IntKind.wrap_u64, IntKind.wrap_u64]; omega) w
    rw [e, sg_true, f] at h
    exact h

theorem rshl_core (a k : Int) (sa : Bool) (a0 : -9223372036854775808 ≤ a) (a1 : a ≤ 9223372036854775807) (da : decide (a < 0) = sa) (k0 : 0 ≤ k) (k1 : k ≤ 63) (w : World) :
    Calls Tryd.prog 25 #[.int .i64 a, .int .i64 k] w fun e w' => e = .returned (.tuple #[.int .i64 (num (sg sa ((a.natAbs : Int) * 2 ^ k.toNat))), .int .i64 (err (sg sa ((a.natAbs : Int) * 2 ^ k.toNat)))]) ∧ w' = w := by
  go_enter Tryd.func25, Tryd.ntmps25
  go_wp2_with (first | (go_at_call 37; refine (rsize _ (by omega) (by omega) _).mono ?_; rintro e w' ⟨rfl, rfl⟩) | (go_at_call 38; refine (back _ _ _ (by omega) (by omega) (by omega) (by omega) _).mono ?_; rintro e w' ⟨rfl, rfl⟩))
  go_loop [6, 7, 8] (fun x h i => ∃ (n : Nat) (X H : Int), n ≤ 63 ∧ (n : Int) ≤ k ∧ i = .int .i64 n ∧ x = .int .u64 X ∧ h = .int .u64 H ∧ 0 ≤ X ∧ X ≤ 18446744073709551615 ∧ 0 ≤ H ∧ H * 18446744073709551616 + X = (a.natAbs : Int) * 2 ^ n) (fun _ _ i => 63 - (intOf i).toNat)
  case atStart => exact ⟨0, (a.natAbs : Int), 0, by omega, by omega, rfl, rfl, rfl, by omega, by omega, by omega, by simp⟩
  case round =>
    obtain ⟨n, X, H, hn, hk, rfl, rfl, rfl, hX0, hX1, hH0, he⟩ := hrel
    have hp := pow_bound hn
    have hH : H ≤ 4611686018427387904 := by
      have : (a.natAbs : Int) * 2 ^ n ≤ 9223372036854775808 * 9223372036854775808 := Int.mul_le_mul (by omega) hp.2 (by omega) (by omega)
      omega
    have HE : Hid (H * 18446744073709551616 + X = (a.natAbs : Int) * 2 ^ n) := he
    clear he hp
    go_wp2_with (first | (go_at_call 37; refine (rsize _ (by omega) (by omega) _).mono ?_; rintro e w' ⟨rfl, rfl⟩) | (go_at_call 38; refine (back _ _ _ (by omega) (by omega) (by omega) (by omega) _).mono ?_; rintro e w' ⟨rfl, rfl⟩))
    · go_round
      case rel =>
        refine ⟨n + 1, IntKind.u64.wrap (2 * X), 2 * H + X / 9223372036854775808, by omega, by omega, by go_num, rfl, rfl, ?_, ?_, by omega, ?_⟩
        · rw [IntKind.wrap_u64]; omega
        · rw [IntKind.wrap_u64]; omega
        · have he := HE.out
          have e2 : (a.natAbs : Int) * 2 ^ (n + 1) = 2 * ((a.natAbs : Int) * 2 ^ n) := by rw [Int.pow_succ]; grind
          rw [IntKind.wrap_u64, e2, ← he]
          omega
      case measure => simp only [intOf]; omega
    · have en : n = k.toNat := by omega
      have he := HE.out
      rw [en] at he
      go_ret2
      exact ⟨ret2 (congrArg num (congrArg (sg sa) he)) (congrArg err (congrArg (sg sa) he)), rfl⟩

theorem rshl (a k : Int) (a0 : -9223372036854775808 ≤ a) (a1 : a ≤ 9223372036854775807) (k0 : 0 ≤ k) (k1 : k ≤ 63) (w : World) :
    Calls Tryd.prog 25 #[.int .i64 a, .int .i64 k] w fun e w' => e = .returned (.tuple #[.int .i64 (num (a * 2 ^ k.toNat)), .int .i64 (err (a * 2 ^ k.toNat))]) ∧ w' = w := by
  have h := rshl_core a k _ a0 a1 rfl k0 k1 w
  have e : sg (decide (a < 0)) ((a.natAbs : Int) * 2 ^ k.toNat) = a * 2 ^ k.toNat := by
    by_cases c : a < 0
    · have ea : (a.natAbs : Int) = -a := by omega
      rw [decide_eq_true c, sg_true, ea, Int.neg_mul, Int.neg_neg]
    · have ea : (a.natAbs : Int) = a := by omega
      rw [decide_eq_false c, sg_false, ea]
  rw [e] at h
  exact h
end Go.Proofs.YtjcobebabpeogaaDoor.Base

/- Contracts of the products of packages whole and stencilref1. -/
import Derived.Test.YtjcobebabpeogaaDoorMul
namespace Go.Proofs.YtjcobebabpeogaaDoor.Base
set_option linter.unusedVariables false
open Go.ChangeShapes Go.WideShapes Go.ChangeAt Go.RowKit Go.Proofs.YtjcobebabpeogaaDoor.Sums

theorem mul_zero (a b lo : Int) (sa sb : Bool) (a0 : -9223372036854775808 ≤ a) (a1 : a ≤ 9223372036854775807) (b0 : -9223372036854775808 ≤ b) (b1 : b ≤ 9223372036854775807)
    (l0 : 0 ≤ lo) (l1 : lo ≤ 18446744073709551615) (da : decide (a < 0) = sa) (db : decide (b < 0) = sb)
    (H : ∀ w, Calls Tryd.prog 34 #[.int .u64 (a.natAbs : Int), .int .u64 (b.natAbs : Int)] w fun e w' => e = .returned (.tuple #[.int .u64 0, .int .u64 lo]) ∧ w' = w) (w : World) :
    Calls Tryd.prog 11 #[.int .i64 a, .int .i64 b] w fun e w' => e = .returned (.tuple #[.int .i64 (num (sg (sa != sb) lo)), .int .i64 (err (sg (sa != sb) lo))]) ∧ w' = w := by
  go_enter Tryd.func11, Tryd.ntmps11
  go_wp2_with (first | (go_at_call 35; refine (wsize _ (by omega) (by omega) _).mono ?_; rintro e w' ⟨rfl, rfl⟩) | (go_at_call 34; refine (H _).mono ?_; rintro e w' ⟨rfl, rfl⟩) | (go_at_call 36; refine (withSign _ _ (by omega) (by omega) _).mono ?_; rintro e w' ⟨rfl, rfl⟩))
  go_ret2
  exact ⟨rfl, rfl⟩

theorem mul_pos (a b hi lo : Int) (a0 : -9223372036854775808 ≤ a) (a1 : a ≤ 9223372036854775807) (b0 : -9223372036854775808 ≤ b) (b1 : b ≤ 9223372036854775807)
    (h0 : 0 < hi)
    (H : ∀ w, Calls Tryd.prog 34 #[.int .u64 (a.natAbs : Int), .int .u64 (b.natAbs : Int)] w fun e w' => e = .returned (.tuple #[.int .u64 hi, .int .u64 lo]) ∧ w' = w) (w : World) :
    Calls Tryd.prog 11 #[.int .i64 a, .int .i64 b] w fun e w' => e = .returned (.tuple #[.int .i64 0, .int .i64 100]) ∧ w' = w := by
  go_enter Tryd.func11, Tryd.ntmps11
  go_wp2_with (first | (go_at_call 35; refine (wsize _ (by omega) (by omega) _).mono ?_; rintro e w' ⟨rfl, rfl⟩) | (go_at_call 34; refine (H _).mono ?_; rintro e w' ⟨rfl, rfl⟩))
  go_ret2
  exact ⟨rfl, rfl⟩

/-- A product by the parts' sizes and signs. -/
theorem prod_sign (a b : Int) : sg (decide (a < 0) != decide (b < 0)) ((a.natAbs * b.natAbs : Nat) : Int) = a * b := by
  have e : ((a.natAbs * b.natAbs : Nat) : Int) = (a.natAbs : Int) * (b.natAbs : Int) := by simp
  rw [e]
  rcases Int.natAbs_eq a with ha | ha <;> rcases Int.natAbs_eq b with hb | hb
  all_goals
    generalize hx : a.natAbs = x at *
    generalize hy : b.natAbs = y at *
    subst ha hb
    have px : 0 ≤ (x : Int) := Int.natCast_nonneg x
    have py : 0 ≤ (y : Int) := Int.natCast_nonneg y
    by_cases cx : (x : Int) = 0
    · simp [cx, sg]
    · by_cases cy : (y : Int) = 0
      · simp [cy, sg]
      · have d1 : decide (-(x : Int) < 0) = true := decide_eq_true (by omega)
        have d2 : decide ((x : Int) < 0) = false := decide_eq_false (by omega)
        have d3 : decide (-(y : Int) < 0) = true := decide_eq_true (by omega)
        have d4 : decide ((y : Int) < 0) = false := decide_eq_false (by omega)
        simp only [d1, d2, d3, d4, sg]
        grind

theorem mul (a b : Int) (a0 : -9223372036854775808 ≤ a) (a1 : a ≤ 9223372036854775807) (b0 : -9223372036854775808 ≤ b) (b1 : b ≤ 9223372036854775807) (w : World) :
    Calls Tryd.prog 11 #[.int .i64 a, .int .i64 b] w fun e w' => e = .returned (.tuple #[.int .i64 (num (a * b)), .int .i64 (err (a * b))]) ∧ w' = w := by
  have H := Tryd.bits_Mul64 a.natAbs b.natAbs (by omega) (by omega)
  have e := prod_sign a b
  by_cases c : a.natAbs * b.natAbs < 18446744073709551616
  · rw [Nat.div_eq_of_lt c, Nat.mod_eq_of_lt c] at H
    rw [← e]
    exact mul_zero a b _ _ _ a0 a1 b0 b1 (by omega) (by omega) rfl rfl H w
  · have hout : a * b < -9223372036854775808 ∨ 9223372036854775807 < a * b := by
      rw [← e]
      generalize (decide (a < 0) != decide (b < 0)) = s
      cases s
      · rw [sg_false]; omega
      · rw [sg_true]; omega
    rw [num_out hout, err_out hout]
    refine mul_pos a b _ _ a0 a1 b0 b1 ?_ H w
    have := Nat.div_pos (Nat.le_of_not_lt c) (by omega)
    omega

/-- The words of a product, by halves. -/
theorem halves (x y : Int) (hx : 0 ≤ x) (hy : 0 ≤ y) :
    (x / 4294967296 * (y / 4294967296) + (x / 4294967296 * (y % 4294967296) + x % 4294967296 * (y % 4294967296) / 4294967296) / 4294967296
      + (x % 4294967296 * (y / 4294967296) + (x / 4294967296 * (y % 4294967296) + x % 4294967296 * (y % 4294967296) / 4294967296) % 4294967296) / 4294967296) * 18446744073709551616
      + ((x % 4294967296 * (y / 4294967296) + (x / 4294967296 * (y % 4294967296) + x % 4294967296 * (y % 4294967296) / 4294967296)) % 4294967296 * 4294967296 + x % 4294967296 * (y % 4294967296) % 4294967296) = x * y := by
  have ex : x = 4294967296 * (x / 4294967296) + x % 4294967296 := by omega
  have ey : y = 4294967296 * (y / 4294967296) + y % 4294967296 := by omega
  generalize x / 4294967296 = xh at *
  generalize x % 4294967296 = xl at *
  generalize y / 4294967296 = yh at *
  generalize y % 4294967296 = yl at *
  have e : x * y = 18446744073709551616 * (xh * yh) + 4294967296 * (xh * yl) + 4294967296 * (xl * yh) + xl * yl := by
    rw [ex, ey]; grind
  rw [e]
  generalize xh * yh = s
  generalize xh * yl = p
  generalize xl * yh = r
  generalize xl * yl = q
  omega
theorem part_bound {x y m n : Int} (hx : 0 ≤ x) (hy : 0 ≤ y) (hxm : x ≤ m) (hyn : y ≤ n) : 0 ≤ x * y ∧ x * y ≤ m * n :=
  ⟨Int.mul_nonneg hx hy, Int.mul_le_mul hxm hyn hy (by omega)⟩

theorem rmul_core (a b : Int) (sa sb : Bool) (a0 : -9223372036854775808 ≤ a) (a1 : a ≤ 9223372036854775807) (b0 : -9223372036854775808 ≤ b) (b1 : b ≤ 9223372036854775807) (da : decide (a < 0) = sa) (db : decide (b < 0) = sb) (hm : sg (sa != sb) ((a.natAbs : Int) * (b.natAbs : Int)) = a * b)
    (p0 : 0 ≤ (a.natAbs : Int) / 4294967296 * ((b.natAbs : Int) % 4294967296)) (p1 : (a.natAbs : Int) / 4294967296 * ((b.natAbs : Int) % 4294967296) ≤ 18446744065119617025)
    (q0 : 0 ≤ (a.natAbs : Int) % 4294967296 * ((b.natAbs : Int) % 4294967296)) (q1 : (a.natAbs : Int) % 4294967296 * ((b.natAbs : Int) % 4294967296) ≤ 18446744065119617025)
    (r0 : 0 ≤ (a.natAbs : Int) % 4294967296 * ((b.natAbs : Int) / 4294967296)) (r1 : (a.natAbs : Int) % 4294967296 * ((b.natAbs : Int) / 4294967296) ≤ 18446744065119617025)
    (s0 : 0 ≤ (a.natAbs : Int) / 4294967296 * ((b.natAbs : Int) / 4294967296)) (s1 : (a.natAbs : Int) / 4294967296 * ((b.natAbs : Int) / 4294967296) ≤ 4611686018427387904) (w : World) :
    Calls Tryd.prog 15 #[.int .i64 a, .int .i64 b] w fun e w' => e = .returned (.tuple #[.int .i64 (num (a * b)), .int .i64 (err (a * b))]) ∧ Below w.heap.size w w' := by
  go_enter Tryd.func15, Tryd.ntmps15
  go_wp2_with (first | (go_at_call 37; refine (rsize _ (by omega) (by omega) _).mono ?_; rintro e w' ⟨rfl, rfl⟩) | (go_at_call 38; refine (back _ _ _ (by omega) (by omega) (by omega) (by omega) _).mono ?_; rintro e w' ⟨rfl, rfl⟩))
  go_region
  go_wp2_with (first | (go_at_call 37; refine (rsize _ (by omega) (by omega) _).mono ?_; rintro e w' ⟨rfl, rfl⟩) | (go_at_call 38; refine (back _ _ _ (by omega) (by omega) (by omega) (by omega) _).mono ?_; rintro e w' ⟨rfl, rfl⟩))
  go_region
  go_wp2_with (first | (go_at_call 37; refine (rsize _ (by omega) (by omega) _).mono ?_; rintro e w' ⟨rfl, rfl⟩) | (go_at_call 38; refine (back _ _ _ (by omega) (by omega) (by omega) (by omega) _).mono ?_; rintro e w' ⟨rfl, rfl⟩))
  go_region
  go_wp2_with (first | (go_at_call 37; refine (rsize _ (by omega) (by omega) _).mono ?_; rintro e w' ⟨rfl, rfl⟩) | (go_at_call 38; refine (back _ _ _ (by omega) (by omega) (by omega) (by omega) _).mono ?_; rintro e w' ⟨rfl, rfl⟩))
  go_ret2
  refine ⟨ret2 (congrArg num ?_) (congrArg err ?_), by repeat (first | exact Below.refl _ _ | apply Below.drew)⟩
  · rw [halves (a.natAbs : Int) (b.natAbs : Int) (by omega) (by omega)]; exact hm
  · rw [halves (a.natAbs : Int) (b.natAbs : Int) (by omega) (by omega)]; exact hm

theorem rmul (a b : Int) (a0 : -9223372036854775808 ≤ a) (a1 : a ≤ 9223372036854775807) (b0 : -9223372036854775808 ≤ b) (b1 : b ≤ 9223372036854775807) (w : World) :
    Calls Tryd.prog 15 #[.int .i64 a, .int .i64 b] w fun e w' => e = .returned (.tuple #[.int .i64 (num (a * b)), .int .i64 (err (a * b))]) ∧ Below w.heap.size w w' := by
  have p := @part_bound ((a.natAbs : Int) / 4294967296) ((b.natAbs : Int) % 4294967296) 4294967295 4294967295 (by omega) (by omega) (by omega) (by omega)
  have q := @part_bound ((a.natAbs : Int) % 4294967296) ((b.natAbs : Int) % 4294967296) 4294967295 4294967295 (by omega) (by omega) (by omega) (by omega)
  have r := @part_bound ((a.natAbs : Int) % 4294967296) ((b.natAbs : Int) / 4294967296) 4294967295 4294967295 (by omega) (by omega) (by omega) (by omega)
  have s := @part_bound ((a.natAbs : Int) / 4294967296) ((b.natAbs : Int) / 4294967296) 2147483648 2147483648 (by omega) (by omega) (by omega) (by omega)
  have e := prod_sign a b
  have e2 : ((a.natAbs * b.natAbs : Nat) : Int) = (a.natAbs : Int) * (b.natAbs : Int) := by simp
  rw [e2] at e
  exact rmul_core a b _ _ a0 a1 b0 b1 rfl rfl e p.1 (by omega) q.1 (by omega) r.1 (by omega) s.1 (by omega) w
end Go.Proofs.YtjcobebabpeogaaDoor.Base

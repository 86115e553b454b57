/- Contracts of the quotients and shifts of packages whole and stencilref1. -/
import Derived.Test.YtjcobebabpeogaaDoorMul
namespace Go.Proofs.YtjcobebabpeogaaDoor.Base
set_option linter.unusedVariables false
open Go.ChangeShapes Go.WideShapes Go.ChangeAt Go.RowKit Go.Proofs.YtjcobebabpeogaaDoor.Sums

/-! ### Plain numbers -/
theorem quot_sign (a b : Int) : sg (decide (a < 0) != decide (b < 0)) ((a.natAbs : Int) / (b.natAbs : Int)) = a.tdiv b := by
  rcases Int.natAbs_eq a with ha | ha <;> rcases Int.natAbs_eq b with hb | hb
  all_goals
    generalize hx : a.natAbs = x at *
    generalize hy : b.natAbs = y at *
    subst ha hb
    have px : 0 ≤ (x : Int) := Int.natCast_nonneg x
    have py : 0 ≤ (y : Int) := Int.natCast_nonneg y
    have e := Int.tdiv_eq_ediv_of_nonneg (b := (y : Int)) px
    by_cases cx : (x : Int) = 0
    · simp [cx, sg]
    · by_cases cy : (y : Int) = 0
      · simp [cy, sg]
      · have d1 : decide (-(x : Int) < 0) = true := decide_eq_true (by omega)
        have d2 : decide ((x : Int) < 0) = false := decide_eq_false (by omega)
        have d3 : decide (-(y : Int) < 0) = true := decide_eq_true (by omega)
        have d4 : decide ((y : Int) < 0) = false := decide_eq_false (by omega)
        simp only [d1, d2, d3, d4, sg, Int.neg_tdiv, Int.tdiv_neg, e]
        simp
theorem rem_sign (a b : Int) : sg (decide (a < 0)) ((a.natAbs : Int) % (b.natAbs : Int)) = a.tmod b := by
  rcases Int.natAbs_eq a with ha | ha <;> rcases Int.natAbs_eq b with hb | hb
  all_goals
    generalize hx : a.natAbs = x at *
    generalize hy : b.natAbs = y at *
    subst ha hb
    have px : 0 ≤ (x : Int) := Int.natCast_nonneg x
    have e := Int.tmod_eq_emod_of_nonneg (b := (y : Int)) px
    by_cases cx : (x : Int) = 0
    · simp [cx, sg]
    · have d1 : decide (-(x : Int) < 0) = true := decide_eq_true (by omega)
      have d2 : decide ((x : Int) < 0) = false := decide_eq_false (by omega)
      simp only [d1, d2, sg, Int.neg_tmod, Int.tmod_neg, e]
      simp
theorem tdiv_range {a b : Int} (a0 : -9223372036854775808 ≤ a) (a1 : a ≤ 9223372036854775807) (cb : b ≠ 0) (cm : ¬ (a = -9223372036854775808 ∧ b = -1)) :
    -9223372036854775808 ≤ a.tdiv b ∧ a.tdiv b ≤ 9223372036854775807 := by
  by_cases c1 : b = 1
  · subst c1; simp; omega
  · by_cases c2 : b = -1
    · subst c2
      rw [Int.tdiv_neg, Int.tdiv_one]
      omega
    · rw [← quot_sign]
      have h : a.natAbs / b.natAbs ≤ a.natAbs / 2 := Nat.div_le_div_left (by omega) (by omega)
      have h' : (a.natAbs : Int) / (b.natAbs : Int) = ((a.natAbs / b.natAbs : Nat) : Int) := by simp
      rw [h']
      generalize a.natAbs / b.natAbs = q at *
      generalize (decide (a < 0) != decide (b < 0)) = s
      cases s
      · rw [sg_false]; omega
      · rw [sg_true]; omega
theorem tmod_range {a : Int} (b : Int) (a0 : -9223372036854775808 ≤ a) (a1 : a ≤ 9223372036854775807) :
    -9223372036854775808 ≤ a.tmod b ∧ a.tmod b ≤ 9223372036854775807 := by
  rw [← rem_sign]
  have h : a.natAbs % b.natAbs ≤ a.natAbs := Nat.mod_le _ _
  have h' : (a.natAbs : Int) % (b.natAbs : Int) = ((a.natAbs % b.natAbs : Nat) : Int) := by simp
  rw [h']
  by_cases c : a < 0
  · rw [decide_eq_true c, sg_true]; omega
  · rw [decide_eq_false c, sg_false]; omega
def dnum (a b : Int) : Int := if b = 0 then 0 else num (a.tdiv b)
def derr (a b : Int) : Int := if b = 0 then 101 else err (a.tdiv b)
def mnum (a b : Int) : Int := if b = 0 then 0 else a.tmod b
def merr (b : Int) : Int := if b = 0 then 101 else 0

/-! ### Div, Mod -/
theorem div_zero (a : Int) (w : World) :
    Calls Tryd.prog 19 #[.int .i64 a, .int .i64 0] w fun e w' => e = .returned (.tuple #[.int .i64 0, .int .i64 101]) ∧ w' = w := by
  go_enter Tryd.func19, Tryd.ntmps19
  go_wp2
  go_ret2
  exact ⟨rfl, rfl⟩

theorem div_over (w : World) :
    Calls Tryd.prog 19 #[.int .i64 (-9223372036854775808), .int .i64 (-1)] w fun e w' => e = .returned (.tuple #[.int .i64 0, .int .i64 100]) ∧ w' = w := by
  go_enter Tryd.func19, Tryd.ntmps19
  go_wp2
  go_ret2
  exact ⟨rfl, rfl⟩

theorem div_ok (a b : Int) (cb : b ≠ 0) (cm : ¬ (a = -9223372036854775808 ∧ b = -1)) (w : World) :
    Calls Tryd.prog 19 #[.int .i64 a, .int .i64 b] w fun e w' => e = .returned (.tuple #[.int .i64 (wrap64 (a.tdiv b)), .int .i64 0]) ∧ w' = w := by
  by_cases c : a = -9223372036854775808
  · have c2 : b ≠ -1 := fun h => cm ⟨c, h⟩
    clear cm
    subst c
    go_enter Tryd.func19, Tryd.ntmps19
    go_wp2
    go_ret2
    exact ⟨ret2 (by rw [Int.neg_tdiv]) rfl, rfl⟩
  · clear cm
    go_enter Tryd.func19, Tryd.ntmps19
    go_wp2
    go_ret2
    exact ⟨rfl, rfl⟩

theorem div (a b : Int) (a0 : -9223372036854775808 ≤ a) (a1 : a ≤ 9223372036854775807) (w : World) :
    Calls Tryd.prog 19 #[.int .i64 a, .int .i64 b] w fun e w' => e = .returned (.tuple #[.int .i64 (dnum a b), .int .i64 (derr a b)]) ∧ w' = w := by
  unfold dnum derr
  by_cases cb : b = 0
  · subst cb
    exact div_zero a w
  · rw [if_neg cb, if_neg cb]
    by_cases cm : a = -9223372036854775808 ∧ b = -1
    · obtain ⟨rfl, rfl⟩ := cm
      have e : Int.tdiv (-9223372036854775808) (-1) = 9223372036854775808 := by decide
      rw [e, num_out (by omega), err_out (by omega)]
      exact div_over w
    · have r := tdiv_range a0 a1 cb cm
      have h := div_ok a b cb cm w
      rw [wrap64_in' (by omega)] at h
      rw [num_in r.1 r.2, err_in r.1 r.2]
      exact h

theorem mod_zero (a : Int) (w : World) :
    Calls Tryd.prog 20 #[.int .i64 a, .int .i64 0] w fun e w' => e = .returned (.tuple #[.int .i64 0, .int .i64 101]) ∧ w' = w := by
  go_enter Tryd.func20, Tryd.ntmps20
  go_wp2
  go_ret2
  exact ⟨rfl, rfl⟩

theorem mod_ok (a b : Int) (cb : b ≠ 0) (w : World) :
    Calls Tryd.prog 20 #[.int .i64 a, .int .i64 b] w fun e w' => e = .returned (.tuple #[.int .i64 (a.tmod b), .int .i64 0]) ∧ w' = w := by
  go_enter Tryd.func20, Tryd.ntmps20
  go_wp2
  go_ret2
  exact ⟨rfl, rfl⟩

theorem mod (a b : Int) (w : World) :
    Calls Tryd.prog 20 #[.int .i64 a, .int .i64 b] w fun e w' => e = .returned (.tuple #[.int .i64 (mnum a b), .int .i64 (merr b)]) ∧ w' = w := by
  unfold mnum merr
  by_cases cb : b = 0
  · subst cb
    exact mod_zero a w
  · rw [if_neg cb, if_neg cb]
    exact mod_ok a b cb w

theorem rdiv_zero (a : Int) (w : World) :
    Calls Tryd.prog 21 #[.int .i64 a, .int .i64 0] w fun e w' => e = .returned (.tuple #[.int .i64 0, .int .i64 101]) ∧ w' = w := by
  go_enter Tryd.func21, Tryd.ntmps21
  go_wp2
  go_ret2
  exact ⟨rfl, rfl⟩

theorem rdiv_ok (a b : Int) (sa sb : Bool) (a0 : -9223372036854775808 ≤ a) (a1 : a ≤ 9223372036854775807) (b0 : -9223372036854775808 ≤ b) (b1 : b ≤ 9223372036854775807)
    (da : decide (a < 0) = sa) (db : decide (b < 0) = sb) (cb : b ≠ 0) (q0 : 0 ≤ (a.natAbs : Int) / (b.natAbs : Int)) (q1 : (a.natAbs : Int) / (b.natAbs : Int) ≤ 9223372036854775808) (w : World) :
    Calls Tryd.prog 21 #[.int .i64 a, .int .i64 b] w fun e w' => e = .returned (.tuple #[.int .i64 (num (sg (sa != sb) ((a.natAbs : Int) / (b.natAbs : Int)))), .int .i64 (err (sg (sa != sb) ((a.natAbs : Int) / (b.natAbs : Int))))]) ∧ w' = w := by
  go_enter Tryd.func21, Tryd.ntmps21
  go_wp2_with (first | (go_at_call 37; refine (rsize _ (by omega) (by omega) _).mono ?_; rintro e w' ⟨rfl, rfl⟩) | (go_at_call 38; refine (back0 _ _ (by omega) (by omega) _).mono ?_; rintro e w' ⟨rfl, rfl⟩))
  go_ret2
  exact ⟨rfl, rfl⟩

theorem rdiv (a b : Int) (a0 : -9223372036854775808 ≤ a) (a1 : a ≤ 9223372036854775807) (b0 : -9223372036854775808 ≤ b) (b1 : b ≤ 9223372036854775807) (w : World) :
    Calls Tryd.prog 21 #[.int .i64 a, .int .i64 b] w fun e w' => e = .returned (.tuple #[.int .i64 (dnum a b), .int .i64 (derr a b)]) ∧ w' = w := by
  unfold dnum derr
  by_cases cb : b = 0
  · subst cb
    exact rdiv_zero a w
  · rw [if_neg cb, if_neg cb, ← quot_sign]
    have h : a.natAbs / b.natAbs ≤ a.natAbs := Nat.div_le_self _ _
    have h' : (a.natAbs : Int) / (b.natAbs : Int) = ((a.natAbs / b.natAbs : Nat) : Int) := by simp
    exact rdiv_ok a b _ _ a0 a1 b0 b1 rfl rfl cb (by rw [h']; exact Int.natCast_nonneg _) (by omega) w

theorem rmod_zero (a : Int) (w : World) :
    Calls Tryd.prog 22 #[.int .i64 a, .int .i64 0] w fun e w' => e = .returned (.tuple #[.int .i64 0, .int .i64 101]) ∧ w' = w := by
  go_enter Tryd.func22, Tryd.ntmps22
  go_wp2
  go_ret2
  exact ⟨rfl, rfl⟩

theorem rmod_ok (a b : Int) (sa : Bool) (a0 : -9223372036854775808 ≤ a) (a1 : a ≤ 9223372036854775807) (b0 : -9223372036854775808 ≤ b) (b1 : b ≤ 9223372036854775807)
    (da : decide (a < 0) = sa) (cb : b ≠ 0) (q0 : 0 ≤ (a.natAbs : Int) % (b.natAbs : Int)) (q1 : (a.natAbs : Int) % (b.natAbs : Int) ≤ 9223372036854775808) (w : World) :
    Calls Tryd.prog 22 #[.int .i64 a, .int .i64 b] w fun e w' => e = .returned (.tuple #[.int .i64 (num (sg sa ((a.natAbs : Int) % (b.natAbs : Int)))), .int .i64 (err (sg sa ((a.natAbs : Int) % (b.natAbs : Int))))]) ∧ w' = w := by
  go_enter Tryd.func22, Tryd.ntmps22
  go_wp2_with (first | (go_at_call 37; refine (rsize _ (by omega) (by omega) _).mono ?_; rintro e w' ⟨rfl, rfl⟩) | (go_at_call 38; refine (back0 _ _ (by omega) (by omega) _).mono ?_; rintro e w' ⟨rfl, rfl⟩))
  go_ret2
  exact ⟨rfl, rfl⟩

theorem rmod (a b : Int) (a0 : -9223372036854775808 ≤ a) (a1 : a ≤ 9223372036854775807) (b0 : -9223372036854775808 ≤ b) (b1 : b ≤ 9223372036854775807) (w : World) :
    Calls Tryd.prog 22 #[.int .i64 a, .int .i64 b] w fun e w' => e = .returned (.tuple #[.int .i64 (mnum a b), .int .i64 (merr b)]) ∧ w' = w := by
  unfold mnum merr
  by_cases cb : b = 0
  · subst cb
    exact rmod_zero a w
  · rw [if_neg cb, if_neg cb]
    have r := tmod_range b a0 a1
    rw [← num_in r.1 r.2, ← err_in r.1 r.2, ← rem_sign]
    have h : a.natAbs % b.natAbs ≤ a.natAbs := Nat.mod_le _ _
    have h' : (a.natAbs : Int) % (b.natAbs : Int) = ((a.natAbs % b.natAbs : Nat) : Int) := by simp
    exact rmod_ok a b _ a0 a1 b0 b1 rfl cb (by omega) (by omega) w
end Go.Proofs.YtjcobebabpeogaaDoor.Base

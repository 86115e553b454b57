/- Contracts of the sums and products of packages whole and stencilref1. -/
import Derived.Test.YtjcobebabpeogaaDoorBase
namespace Go.Proofs.YtjcobebabpeogaaDoor.Base
set_option linter.unusedVariables false
open Go.ChangeShapes Go.WideShapes Go.ChangeAt Go.RowKit Go.Proofs.YtjcobebabpeogaaDoor.Sums

/-- 'back' at whatever words. -/
theorem back (h m : Int) (below : Bool) (hh : 0 ≤ h) (hh1 : h ≤ 18446744073709551615) (h0 : 0 ≤ m) (h1 : m ≤ 18446744073709551615) (w : World) :
    Calls Tryd.prog 38 #[.bool below, .int .u64 h, .int .u64 m] w fun e w' => e = .returned (.tuple #[.int .i64 (num (sg below (h * 18446744073709551616 + m))), .int .i64 (err (sg below (h * 18446744073709551616 + m)))]) ∧ w' = w := by
  by_cases c : h = 0
  · subst c
    have e : (0 : Int) * 18446744073709551616 + m = m := by omega
    rw [e]
    exact back0 m below h0 h1 w
  · have hout : sg below (h * 18446744073709551616 + m) < -9223372036854775808 ∨ 9223372036854775807 < sg below (h * 18446744073709551616 + m) := by
      cases below
      · rw [sg_false]; omega
      · rw [sg_true]; omega
    rw [num_out hout, err_out hout]
    exact back1 h m below (by omega) hh1 h0 h1 w

/-! MUL -/

theorem radd_wrap (a b : Int) (a0 : -9223372036854775808 ≤ a) (a1 : a ≤ 9223372036854775807) (b0 : -9223372036854775808 ≤ b) (b1 : b ≤ 9223372036854775807) (ca : decide (a < 0) = true) (cb : decide (b < 0) = true) (cp : a ≠ 0) (cw : IntKind.u64.wrap ((a.natAbs : Int) + (b.natAbs : Int)) = 0) (w : World) :
    Calls Tryd.prog 13 #[.int .i64 a, .int .i64 b] w fun e w' => e = .returned (.tuple #[.int .i64 0, .int .i64 100]) ∧ w' = w := by
  go_enter Tryd.func13, Tryd.ntmps13
  go_wp2_with (first | (go_at_call 37; refine (rsize _ (by omega) (by omega) _).mono ?_; rintro e w' ⟨rfl, rfl⟩) | (go_at_call 38; refine (back1 _ _ _ (by omega) (by omega) (by omega) (by omega) _).mono ?_; rintro e w' ⟨rfl, rfl⟩))
  go_ret2
  exact ⟨rfl, rfl⟩
theorem radd_nn (a b : Int) (a0 : -9223372036854775808 ≤ a) (a1 : a ≤ 9223372036854775807) (b0 : -9223372036854775808 ≤ b) (b1 : b ≤ 9223372036854775807) (ca : a < 0) (cb : b < 0) (da : decide (a < 0) = true) (db : decide (b < 0) = true) (cm : (a.natAbs : Int) + (b.natAbs : Int) ≤ 18446744073709551615) (w : World) :
    Calls Tryd.prog 13 #[.int .i64 a, .int .i64 b] w fun e w' => e = .returned (.tuple #[.int .i64 (num (a + b)), .int .i64 (err (a + b))]) ∧ w' = w := by
  go_enter Tryd.func13, Tryd.ntmps13
  go_wp2_with (first | (go_at_call 37; refine (rsize _ (by omega) (by omega) _).mono ?_; rintro e w' ⟨rfl, rfl⟩) | (go_at_call 38; refine (back0 _ _ (by omega) (by omega) _).mono ?_; rintro e w' ⟨rfl, rfl⟩))
  go_ret2
  exact ⟨ret2 (congrArg num (sg_of (fun h => by first | omega | cases h | (have := of_decide_eq_true h; omega)) (fun h => by first | omega | cases h | (have := of_decide_eq_false h; omega)))) (congrArg err (sg_of (fun h => by first | omega | cases h | (have := of_decide_eq_true h; omega)) (fun h => by first | omega | cases h | (have := of_decide_eq_false h; omega)))), rfl⟩
theorem radd_np1 (a b : Int) (a0 : -9223372036854775808 ≤ a) (a1 : a ≤ 9223372036854775807) (b0 : -9223372036854775808 ≤ b) (b1 : b ≤ 9223372036854775807) (ca : a < 0) (cb : 0 ≤ b) (da : decide (a < 0) = true) (db : decide (b < 0) = false) (cm : b.natAbs ≤ a.natAbs) (w : World) :
    Calls Tryd.prog 13 #[.int .i64 a, .int .i64 b] w fun e w' => e = .returned (.tuple #[.int .i64 (num (a + b)), .int .i64 (err (a + b))]) ∧ w' = w := by
  go_enter Tryd.func13, Tryd.ntmps13
  go_wp2_with (first | (go_at_call 37; refine (rsize _ (by omega) (by omega) _).mono ?_; rintro e w' ⟨rfl, rfl⟩) | (go_at_call 38; refine (back0 _ _ (by omega) (by omega) _).mono ?_; rintro e w' ⟨rfl, rfl⟩))
  go_ret2
  exact ⟨ret2 (congrArg num (sg_of (fun h => by first | omega | cases h | (have := of_decide_eq_true h; omega)) (fun h => by first | omega | cases h | (have := of_decide_eq_false h; omega)))) (congrArg err (sg_of (fun h => by first | omega | cases h | (have := of_decide_eq_true h; omega)) (fun h => by first | omega | cases h | (have := of_decide_eq_false h; omega)))), rfl⟩
theorem radd_np2 (a b : Int) (a0 : -9223372036854775808 ≤ a) (a1 : a ≤ 9223372036854775807) (b0 : -9223372036854775808 ≤ b) (b1 : b ≤ 9223372036854775807) (ca : a < 0) (cb : 0 ≤ b) (da : decide (a < 0) = true) (db : decide (b < 0) = false) (cm : a.natAbs < b.natAbs) (w : World) :
    Calls Tryd.prog 13 #[.int .i64 a, .int .i64 b] w fun e w' => e = .returned (.tuple #[.int .i64 (num (a + b)), .int .i64 (err (a + b))]) ∧ w' = w := by
  go_enter Tryd.func13, Tryd.ntmps13
  go_wp2_with (first | (go_at_call 37; refine (rsize _ (by omega) (by omega) _).mono ?_; rintro e w' ⟨rfl, rfl⟩) | (go_at_call 38; refine (back0 _ _ (by omega) (by omega) _).mono ?_; rintro e w' ⟨rfl, rfl⟩))
  go_ret2
  exact ⟨ret2 (congrArg num (sg_of (fun h => by first | omega | cases h | (have := of_decide_eq_true h; omega)) (fun h => by first | omega | cases h | (have := of_decide_eq_false h; omega)))) (congrArg err (sg_of (fun h => by first | omega | cases h | (have := of_decide_eq_true h; omega)) (fun h => by first | omega | cases h | (have := of_decide_eq_false h; omega)))), rfl⟩
theorem radd_pn1 (a b : Int) (a0 : -9223372036854775808 ≤ a) (a1 : a ≤ 9223372036854775807) (b0 : -9223372036854775808 ≤ b) (b1 : b ≤ 9223372036854775807) (ca : 0 ≤ a) (cb : b < 0) (da : decide (a < 0) = false) (db : decide (b < 0) = true) (cm : b.natAbs ≤ a.natAbs) (w : World) :
    Calls Tryd.prog 13 #[.int .i64 a, .int .i64 b] w fun e w' => e = .returned (.tuple #[.int .i64 (num (a + b)), .int .i64 (err (a + b))]) ∧ w' = w := by
  go_enter Tryd.func13, Tryd.ntmps13
  go_wp2_with (first | (go_at_call 37; refine (rsize _ (by omega) (by omega) _).mono ?_; rintro e w' ⟨rfl, rfl⟩) | (go_at_call 38; refine (back0 _ _ (by omega) (by omega) _).mono ?_; rintro e w' ⟨rfl, rfl⟩))
  go_ret2
  exact ⟨ret2 (congrArg num (sg_of (fun h => by first | omega | cases h | (have := of_decide_eq_true h; omega)) (fun h => by first | omega | cases h | (have := of_decide_eq_false h; omega)))) (congrArg err (sg_of (fun h => by first | omega | cases h | (have := of_decide_eq_true h; omega)) (fun h => by first | omega | cases h | (have := of_decide_eq_false h; omega)))), rfl⟩
theorem radd_pn2 (a b : Int) (a0 : -9223372036854775808 ≤ a) (a1 : a ≤ 9223372036854775807) (b0 : -9223372036854775808 ≤ b) (b1 : b ≤ 9223372036854775807) (ca : 0 ≤ a) (cb : b < 0) (da : decide (a < 0) = false) (db : decide (b < 0) = true) (cm : a.natAbs < b.natAbs) (w : World) :
    Calls Tryd.prog 13 #[.int .i64 a, .int .i64 b] w fun e w' => e = .returned (.tuple #[.int .i64 (num (a + b)), .int .i64 (err (a + b))]) ∧ w' = w := by
  go_enter Tryd.func13, Tryd.ntmps13
  go_wp2_with (first | (go_at_call 37; refine (rsize _ (by omega) (by omega) _).mono ?_; rintro e w' ⟨rfl, rfl⟩) | (go_at_call 38; refine (back0 _ _ (by omega) (by omega) _).mono ?_; rintro e w' ⟨rfl, rfl⟩))
  go_ret2
  exact ⟨ret2 (congrArg num (sg_of (fun h => by first | omega | cases h | (have := of_decide_eq_true h; omega)) (fun h => by first | omega | cases h | (have := of_decide_eq_false h; omega)))) (congrArg err (sg_of (fun h => by first | omega | cases h | (have := of_decide_eq_true h; omega)) (fun h => by first | omega | cases h | (have := of_decide_eq_false h; omega)))), rfl⟩
theorem radd_pp (a b : Int) (a0 : -9223372036854775808 ≤ a) (a1 : a ≤ 9223372036854775807) (b0 : -9223372036854775808 ≤ b) (b1 : b ≤ 9223372036854775807) (ca : 0 ≤ a) (cb : 0 ≤ b) (da : decide (a < 0) = false) (db : decide (b < 0) = false) (cm : (a.natAbs : Int) + (b.natAbs : Int) ≤ 18446744073709551615) (w : World) :
    Calls Tryd.prog 13 #[.int .i64 a, .int .i64 b] w fun e w' => e = .returned (.tuple #[.int .i64 (num (a + b)), .int .i64 (err (a + b))]) ∧ w' = w := by
  go_enter Tryd.func13, Tryd.ntmps13
  go_wp2_with (first | (go_at_call 37; refine (rsize _ (by omega) (by omega) _).mono ?_; rintro e w' ⟨rfl, rfl⟩) | (go_at_call 38; refine (back0 _ _ (by omega) (by omega) _).mono ?_; rintro e w' ⟨rfl, rfl⟩))
  go_ret2
  exact ⟨ret2 (congrArg num (sg_of (fun h => by first | omega | cases h | (have := of_decide_eq_true h; omega)) (fun h => by first | omega | cases h | (have := of_decide_eq_false h; omega)))) (congrArg err (sg_of (fun h => by first | omega | cases h | (have := of_decide_eq_true h; omega)) (fun h => by first | omega | cases h | (have := of_decide_eq_false h; omega)))), rfl⟩

theorem radd (a b : Int) (a0 : -9223372036854775808 ≤ a) (a1 : a ≤ 9223372036854775807) (b0 : -9223372036854775808 ≤ b) (b1 : b ≤ 9223372036854775807) (w : World) :
    Calls Tryd.prog 13 #[.int .i64 a, .int .i64 b] w fun e w' => e = .returned (.tuple #[.int .i64 (num (a + b)), .int .i64 (err (a + b))]) ∧ w' = w := by
  by_cases cm : a + b = -18446744073709551616
  · rw [num_out (by omega), err_out (by omega)]
    exact radd_wrap a b a0 a1 b0 b1 (decide_eq_true (by omega)) (decide_eq_true (by omega)) (by omega) (by rw [IntKind.wrap_u64]; omega) w
  · by_cases ca : a < 0
    · by_cases cb : b < 0
      · exact radd_nn a b a0 a1 b0 b1 ca cb (decide_eq_true ca) (decide_eq_true cb) (by omega) w
      · by_cases cc : b.natAbs ≤ a.natAbs
        · exact radd_np1 a b a0 a1 b0 b1 ca (by omega) (decide_eq_true ca) (decide_eq_false cb) cc w
        · exact radd_np2 a b a0 a1 b0 b1 ca (by omega) (decide_eq_true ca) (decide_eq_false cb) (by omega) w
    · by_cases cb : b < 0
      · by_cases cc : b.natAbs ≤ a.natAbs
        · exact radd_pn1 a b a0 a1 b0 b1 (by omega) cb (decide_eq_false ca) (decide_eq_true cb) cc w
        · exact radd_pn2 a b a0 a1 b0 b1 (by omega) cb (decide_eq_false ca) (decide_eq_true cb) (by omega) w
      · exact radd_pp a b a0 a1 b0 b1 (by omega) (by omega) (decide_eq_false ca) (decide_eq_false cb) (by omega) w
theorem rsub_nn1 (a b : Int) (a0 : -9223372036854775808 ≤ a) (a1 : a ≤ 9223372036854775807) (b0 : -9223372036854775808 ≤ b) (b1 : b ≤ 9223372036854775807) (ca : a < 0) (cb : b < 0) (da : decide (a < 0) = true) (db : decide (b < 0) = true) (cm : b.natAbs ≤ a.natAbs) (w : World) :
    Calls Tryd.prog 14 #[.int .i64 a, .int .i64 b] w fun e w' => e = .returned (.tuple #[.int .i64 (num (a - b)), .int .i64 (err (a - b))]) ∧ w' = w := by
  go_enter Tryd.func14, Tryd.ntmps14
  go_wp2_with (first | (go_at_call 37; refine (rsize _ (by omega) (by omega) _).mono ?_; rintro e w' ⟨rfl, rfl⟩) | (go_at_call 38; refine (back0 _ _ (by omega) (by omega) _).mono ?_; rintro e w' ⟨rfl, rfl⟩))
  go_ret2
  exact ⟨ret2 (congrArg num (sg_of (fun h => by first | omega | cases h | (have := of_decide_eq_true h; omega)) (fun h => by first | omega | cases h | (have := of_decide_eq_false h; omega)))) (congrArg err (sg_of (fun h => by first | omega | cases h | (have := of_decide_eq_true h; omega)) (fun h => by first | omega | cases h | (have := of_decide_eq_false h; omega)))), rfl⟩
theorem rsub_nn2 (a b : Int) (a0 : -9223372036854775808 ≤ a) (a1 : a ≤ 9223372036854775807) (b0 : -9223372036854775808 ≤ b) (b1 : b ≤ 9223372036854775807) (ca : a < 0) (cb : b < 0) (da : decide (a < 0) = true) (db : decide (b < 0) = true) (cm : a.natAbs < b.natAbs) (w : World) :
    Calls Tryd.prog 14 #[.int .i64 a, .int .i64 b] w fun e w' => e = .returned (.tuple #[.int .i64 (num (a - b)), .int .i64 (err (a - b))]) ∧ w' = w := by
  go_enter Tryd.func14, Tryd.ntmps14
  go_wp2_with (first | (go_at_call 37; refine (rsize _ (by omega) (by omega) _).mono ?_; rintro e w' ⟨rfl, rfl⟩) | (go_at_call 38; refine (back0 _ _ (by omega) (by omega) _).mono ?_; rintro e w' ⟨rfl, rfl⟩))
  go_ret2
  exact ⟨ret2 (congrArg num (sg_of (fun h => by first | omega | cases h | (have := of_decide_eq_true h; omega)) (fun h => by first | omega | cases h | (have := of_decide_eq_false h; omega)))) (congrArg err (sg_of (fun h => by first | omega | cases h | (have := of_decide_eq_true h; omega)) (fun h => by first | omega | cases h | (have := of_decide_eq_false h; omega)))), rfl⟩
theorem rsub_np (a b : Int) (a0 : -9223372036854775808 ≤ a) (a1 : a ≤ 9223372036854775807) (b0 : -9223372036854775808 ≤ b) (b1 : b ≤ 9223372036854775807) (ca : a < 0) (cb : 0 ≤ b) (da : decide (a < 0) = true) (db : decide (b < 0) = false) (cm : (a.natAbs : Int) + (b.natAbs : Int) ≤ 18446744073709551615) (w : World) :
    Calls Tryd.prog 14 #[.int .i64 a, .int .i64 b] w fun e w' => e = .returned (.tuple #[.int .i64 (num (a - b)), .int .i64 (err (a - b))]) ∧ w' = w := by
  go_enter Tryd.func14, Tryd.ntmps14
  go_wp2_with (first | (go_at_call 37; refine (rsize _ (by omega) (by omega) _).mono ?_; rintro e w' ⟨rfl, rfl⟩) | (go_at_call 38; refine (back0 _ _ (by omega) (by omega) _).mono ?_; rintro e w' ⟨rfl, rfl⟩))
  go_ret2
  exact ⟨ret2 (congrArg num (sg_of (fun h => by first | omega | cases h | (have := of_decide_eq_true h; omega)) (fun h => by first | omega | cases h | (have := of_decide_eq_false h; omega)))) (congrArg err (sg_of (fun h => by first | omega | cases h | (have := of_decide_eq_true h; omega)) (fun h => by first | omega | cases h | (have := of_decide_eq_false h; omega)))), rfl⟩
theorem rsub_pn (a b : Int) (a0 : -9223372036854775808 ≤ a) (a1 : a ≤ 9223372036854775807) (b0 : -9223372036854775808 ≤ b) (b1 : b ≤ 9223372036854775807) (ca : 0 ≤ a) (cb : b < 0) (da : decide (a < 0) = false) (db : decide (b < 0) = true) (cm : (a.natAbs : Int) + (b.natAbs : Int) ≤ 18446744073709551615) (w : World) :
    Calls Tryd.prog 14 #[.int .i64 a, .int .i64 b] w fun e w' => e = .returned (.tuple #[.int .i64 (num (a - b)), .int .i64 (err (a - b))]) ∧ w' = w := by
  go_enter Tryd.func14, Tryd.ntmps14
  go_wp2_with (first | (go_at_call 37; refine (rsize _ (by omega) (by omega) _).mono ?_; rintro e w' ⟨rfl, rfl⟩) | (go_at_call 38; refine (back0 _ _ (by omega) (by omega) _).mono ?_; rintro e w' ⟨rfl, rfl⟩))
  go_ret2
  exact ⟨ret2 (congrArg num (sg_of (fun h => by first | omega | cases h | (have := of_decide_eq_true h; omega)) (fun h => by first | omega | cases h | (have := of_decide_eq_false h; omega)))) (congrArg err (sg_of (fun h => by first | omega | cases h | (have := of_decide_eq_true h; omega)) (fun h => by first | omega | cases h | (have := of_decide_eq_false h; omega)))), rfl⟩
theorem rsub_pp1 (a b : Int) (a0 : -9223372036854775808 ≤ a) (a1 : a ≤ 9223372036854775807) (b0 : -9223372036854775808 ≤ b) (b1 : b ≤ 9223372036854775807) (ca : 0 ≤ a) (cb : 0 ≤ b) (da : decide (a < 0) = false) (db : decide (b < 0) = false) (cm : b.natAbs ≤ a.natAbs) (w : World) :
    Calls Tryd.prog 14 #[.int .i64 a, .int .i64 b] w fun e w' => e = .returned (.tuple #[.int .i64 (num (a - b)), .int .i64 (err (a - b))]) ∧ w' = w := by
  go_enter Tryd.func14, Tryd.ntmps14
  go_wp2_with (first | (go_at_call 37; refine (rsize _ (by omega) (by omega) _).mono ?_; rintro e w' ⟨rfl, rfl⟩) | (go_at_call 38; refine (back0 _ _ (by omega) (by omega) _).mono ?_; rintro e w' ⟨rfl, rfl⟩))
  go_ret2
  exact ⟨ret2 (congrArg num (sg_of (fun h => by first | omega | cases h | (have := of_decide_eq_true h; omega)) (fun h => by first | omega | cases h | (have := of_decide_eq_false h; omega)))) (congrArg err (sg_of (fun h => by first | omega | cases h | (have := of_decide_eq_true h; omega)) (fun h => by first | omega | cases h | (have := of_decide_eq_false h; omega)))), rfl⟩
theorem rsub_pp2 (a b : Int) (a0 : -9223372036854775808 ≤ a) (a1 : a ≤ 9223372036854775807) (b0 : -9223372036854775808 ≤ b) (b1 : b ≤ 9223372036854775807) (ca : 0 ≤ a) (cb : 0 ≤ b) (da : decide (a < 0) = false) (db : decide (b < 0) = false) (cm : a.natAbs < b.natAbs) (w : World) :
    Calls Tryd.prog 14 #[.int .i64 a, .int .i64 b] w fun e w' => e = .returned (.tuple #[.int .i64 (num (a - b)), .int .i64 (err (a - b))]) ∧ w' = w := by
  go_enter Tryd.func14, Tryd.ntmps14
  go_wp2_with (first | (go_at_call 37; refine (rsize _ (by omega) (by omega) _).mono ?_; rintro e w' ⟨rfl, rfl⟩) | (go_at_call 38; refine (back0 _ _ (by omega) (by omega) _).mono ?_; rintro e w' ⟨rfl, rfl⟩))
  go_ret2
  exact ⟨ret2 (congrArg num (sg_of (fun h => by first | omega | cases h | (have := of_decide_eq_true h; omega)) (fun h => by first | omega | cases h | (have := of_decide_eq_false h; omega)))) (congrArg err (sg_of (fun h => by first | omega | cases h | (have := of_decide_eq_true h; omega)) (fun h => by first | omega | cases h | (have := of_decide_eq_false h; omega)))), rfl⟩

theorem rsub (a b : Int) (a0 : -9223372036854775808 ≤ a) (a1 : a ≤ 9223372036854775807) (b0 : -9223372036854775808 ≤ b) (b1 : b ≤ 9223372036854775807) (w : World) :
    Calls Tryd.prog 14 #[.int .i64 a, .int .i64 b] w fun e w' => e = .returned (.tuple #[.int .i64 (num (a - b)), .int .i64 (err (a - b))]) ∧ w' = w := by
  by_cases ca : a < 0
  · by_cases cb : b < 0
    · by_cases cc : b.natAbs ≤ a.natAbs
      · exact rsub_nn1 a b a0 a1 b0 b1 ca cb (decide_eq_true ca) (decide_eq_true cb) cc w
      · exact rsub_nn2 a b a0 a1 b0 b1 ca cb (decide_eq_true ca) (decide_eq_true cb) (by omega) w
    · exact rsub_np a b a0 a1 b0 b1 ca (by omega) (decide_eq_true ca) (decide_eq_false cb) (by omega) w
  · by_cases cb : b < 0
    · exact rsub_pn a b a0 a1 b0 b1 (by omega) cb (decide_eq_false ca) (decide_eq_true cb) (by omega) w
    · by_cases cc : b.natAbs ≤ a.natAbs
      · exact rsub_pp1 a b a0 a1 b0 b1 (by omega) (by omega) (decide_eq_false ca) (decide_eq_false cb) cc w
      · exact rsub_pp2 a b a0 a1 b0 b1 (by omega) (by omega) (decide_eq_false ca) (decide_eq_false cb) (by omega) w

theorem rneg (a : Int) (a0 : -9223372036854775808 ≤ a) (a1 : a ≤ 9223372036854775807) (w : World) :
    Calls Tryd.prog 16 #[.int .i64 a] w fun e w' => e = .returned (.tuple #[.int .i64 (num (-a)), .int .i64 (err (-a))]) ∧ w' = w := by
  by_cases ca : 0 < a
  · have da : decide (0 < a) = true := decide_eq_true ca
    go_enter Tryd.func16, Tryd.ntmps16
    go_wp2_with (first | (go_at_call 37; refine (rsize _ (by omega) (by omega) _).mono ?_; rintro e w' ⟨rfl, rfl⟩) | (go_at_call 38; refine (back0 _ _ (by omega) (by omega) _).mono ?_; rintro e w' ⟨rfl, rfl⟩))
    go_ret2
    exact ⟨ret2 (congrArg num (sg_of (fun h => by first | omega | cases h | (have := of_decide_eq_true h; omega)) (fun h => by first | omega | cases h | (have := of_decide_eq_false h; omega)))) (congrArg err (sg_of (fun h => by first | omega | cases h | (have := of_decide_eq_true h; omega)) (fun h => by first | omega | cases h | (have := of_decide_eq_false h; omega)))), rfl⟩
  · have da : decide (0 < a) = false := decide_eq_false ca
    go_enter Tryd.func16, Tryd.ntmps16
    go_wp2_with (first | (go_at_call 37; refine (rsize _ (by omega) (by omega) _).mono ?_; rintro e w' ⟨rfl, rfl⟩) | (go_at_call 38; refine (back0 _ _ (by omega) (by omega) _).mono ?_; rintro e w' ⟨rfl, rfl⟩))
    go_ret2
    exact ⟨ret2 (congrArg num (sg_of (fun h => by first | omega | cases h | (have := of_decide_eq_true h; omega)) (fun h => by first | omega | cases h | (have := of_decide_eq_false h; omega)))) (congrArg err (sg_of (fun h => by first | omega | cases h | (have := of_decide_eq_true h; omega)) (fun h => by first | omega | cases h | (have := of_decide_eq_false h; omega)))), rfl⟩
end Go.Proofs.YtjcobebabpeogaaDoor.Base

/- Contracts of the small calls of packages whole and stencilref1. -/
import Derived.Test.YtjcobebabpeogaaDoorProg
import Derived.Test.YtjcobebabpeogaaDoorShelf
import Derived.Test.YtjcobebabpeogaaDoorSums
import Derived.WalkKit
import Derived.ProofKit
import Derived.OpenShut
import Derived.WalkLawsBesides
namespace Go.Proofs.YtjcobebabpeogaaDoor.Base
set_option linter.unusedVariables false
open Go.ChangeShapes Go.WideShapes Go.ChangeAt Go.RowKit Go.Proofs.YtjcobebabpeogaaDoor.Sums

theorem wsize (a : Int) (h0 : -9223372036854775808 ≤ a) (h1 : a ≤ 9223372036854775807) (w : World) :
    Calls Tryd.prog 35 #[.int .i64 a] w fun e w' => e = .returned (.int .u64 (a.natAbs : Int)) ∧ w' = w := by
  by_cases c : a < 0
  · go_enter Tryd.func35, Tryd.ntmps35
    go_wp2
    go_ret
    exact ⟨ret1 (by simp only [IntKind.wrap_u64]; omega), rfl⟩
  · go_enter Tryd.func35, Tryd.ntmps35
    go_wp2
    go_ret
    exact ⟨ret1 (by omega), rfl⟩

theorem rsize (a : Int) (h0 : -9223372036854775808 ≤ a) (h1 : a ≤ 9223372036854775807) (w : World) :
    Calls Tryd.prog 37 #[.int .i64 a] w fun e w' => e = .returned (.int .u64 (a.natAbs : Int)) ∧ w' = w := by
  by_cases c : a < 0
  · go_enter Tryd.func37, Tryd.ntmps37
    go_wp2
    go_ret
    exact ⟨ret1 (by omega), rfl⟩
  · go_enter Tryd.func37, Tryd.ntmps37
    go_wp2
    go_ret
    exact ⟨ret1 (by omega), rfl⟩

theorem withSign (m : Int) (below : Bool) (h0 : 0 ≤ m) (h1 : m ≤ 18446744073709551615) (w : World) :
    Calls Tryd.prog 36 #[.int .u64 m, .bool below] w fun e w' => e = .returned (.tuple #[.int .i64 (num (sg below m)), .int .i64 (err (sg below m))]) ∧ w' = w := by
  cases below
  · by_cases c : m ≤ 9223372036854775807
    · go_enter Tryd.func36, Tryd.ntmps36
      go_wp2
      go_ret2
      rw [sg_false, num_in (by omega) (by omega), err_in (by omega) (by omega)]
      exact ⟨rfl, rfl⟩
    · go_enter Tryd.func36, Tryd.ntmps36
      go_wp2
      go_ret2
      rw [sg_false, num_out (by omega), err_out (by omega)]
      exact ⟨rfl, rfl⟩
  · by_cases c : m ≤ 9223372036854775808
    · go_enter Tryd.func36, Tryd.ntmps36
      go_wp2
      go_ret2
      rw [sg_true, num_in (by omega) (by omega), err_in (by omega) (by omega)]
      exact ⟨ret2 (by simp only [IntKind.wrap_u64]; unfold wrap64; omega) rfl, rfl⟩
    · go_enter Tryd.func36, Tryd.ntmps36
      go_wp2
      go_ret2
      rw [sg_true, num_out (by omega), err_out (by omega)]
      exact ⟨rfl, rfl⟩

/-- 'back' at a high word that is 0. -/
theorem back0 (m : Int) (below : Bool) (h0 : 0 ≤ m) (h1 : m ≤ 18446744073709551615) (w : World) :
    Calls Tryd.prog 38 #[.bool below, .int .u64 0, .int .u64 m] w fun e w' => e = .returned (.tuple #[.int .i64 (num (sg below m)), .int .i64 (err (sg below m))]) ∧ w' = w := by
  cases below
  · by_cases c : m ≤ 9223372036854775807
    · go_enter Tryd.func38, Tryd.ntmps38
      go_wp2
      go_ret2
      rw [sg_false, num_in (by omega) (by omega), err_in (by omega) (by omega)]
      exact ⟨rfl, rfl⟩
    · by_cases c2 : m = 9223372036854775808
      · subst c2
        go_enter Tryd.func38, Tryd.ntmps38
        go_wp2
        go_ret2
        rw [sg_false, num_out (by omega), err_out (by omega)]
        exact ⟨rfl, rfl⟩
      · go_enter Tryd.func38, Tryd.ntmps38
        go_wp2
        go_ret2
        rw [sg_false, num_out (by omega), err_out (by omega)]
        exact ⟨rfl, rfl⟩
  · by_cases c : m ≤ 9223372036854775808
    · by_cases c3 : 0 < m
      · by_cases c2 : m = 9223372036854775808
        · subst c2
          go_enter Tryd.func38, Tryd.ntmps38
          go_wp2
          go_ret2
          rw [sg_true, num_in (by omega) (by omega), err_in (by omega) (by omega)]
          exact ⟨rfl, rfl⟩
        · go_enter Tryd.func38, Tryd.ntmps38
          go_wp2
          go_ret2
          rw [sg_true, num_in (by omega) (by omega), err_in (by omega) (by omega)]
          exact ⟨ret2 (by omega) rfl, rfl⟩
      · obtain rfl : m = 0 := by omega
        go_enter Tryd.func38, Tryd.ntmps38
        go_wp2
        go_ret2
        rw [sg_true, num_in (by omega) (by omega), err_in (by omega) (by omega)]
        exact ⟨rfl, rfl⟩
    · go_enter Tryd.func38, Tryd.ntmps38
      go_wp2
      go_ret2
      rw [sg_true, num_out (by omega), err_out (by omega)]
      exact ⟨rfl, rfl⟩

/-- 'back' at a high word above 0. -/
theorem back1 (h m : Int) (below : Bool) (hh : 0 < h) (hh1 : h ≤ 18446744073709551615) (h0 : 0 ≤ m) (h1 : m ≤ 18446744073709551615) (w : World) :
    Calls Tryd.prog 38 #[.bool below, .int .u64 h, .int .u64 m] w fun e w' => e = .returned (.tuple #[.int .i64 0, .int .i64 100]) ∧ w' = w := by
  go_enter Tryd.func38, Tryd.ntmps38
  go_wp2
  go_ret2
  exact ⟨rfl, rfl⟩

theorem add (a b : Int) (a0 : -9223372036854775808 ≤ a) (a1 : a ≤ 9223372036854775807) (b0 : -9223372036854775808 ≤ b) (b1 : b ≤ 9223372036854775807) (w : World) :
    Calls Tryd.prog 9 #[.int .i64 a, .int .i64 b] w fun e w' => e = .returned (.tuple #[.int .i64 (num (a + b)), .int .i64 (err (a + b))]) ∧ w' = w := by
  have t := add_test a0 a1 b0 b1
  by_cases c : bits .and .i64 (bits .xor .i64 a (wrap64 (a + b))) (bits .xor .i64 b (wrap64 (a + b))) < 0
  · have c' := t.mp c
    rw [num_out c', err_out c']
    clear t c' a0 a1 b0 b1
    go_enter Tryd.func9, Tryd.ntmps9
    go_wp2
    go_ret2
    exact ⟨rfl, rfl⟩
  · have c' := fun h => c (t.mpr h)
    have e := wrap64_in' c'
    rw [num_in (by omega) (by omega), err_in (by omega) (by omega), ← e]
    clear t c' a0 a1 b0 b1 e
    go_enter Tryd.func9, Tryd.ntmps9
    go_wp2
    go_ret2
    exact ⟨rfl, rfl⟩

theorem sub (a b : Int) (a0 : -9223372036854775808 ≤ a) (a1 : a ≤ 9223372036854775807) (b0 : -9223372036854775808 ≤ b) (b1 : b ≤ 9223372036854775807) (w : World) :
    Calls Tryd.prog 10 #[.int .i64 a, .int .i64 b] w fun e w' => e = .returned (.tuple #[.int .i64 (num (a - b)), .int .i64 (err (a - b))]) ∧ w' = w := by
  have t := sub_test a0 a1 b0 b1
  by_cases c : bits .and .i64 (bits .xor .i64 a b) (bits .xor .i64 a (wrap64 (a - b))) < 0
  · have c' := t.mp c
    rw [num_out c', err_out c']
    clear t c' a0 a1 b0 b1
    go_enter Tryd.func10, Tryd.ntmps10
    go_wp2
    go_ret2
    exact ⟨rfl, rfl⟩
  · have c' := fun h => c (t.mpr h)
    have e := wrap64_in' c'
    rw [num_in (by omega) (by omega), err_in (by omega) (by omega), ← e]
    clear t c' a0 a1 b0 b1 e
    go_enter Tryd.func10, Tryd.ntmps10
    go_wp2
    go_ret2
    exact ⟨rfl, rfl⟩

theorem neg (a : Int) (a0 : -9223372036854775808 ≤ a) (a1 : a ≤ 9223372036854775807) (w : World) :
    Calls Tryd.prog 12 #[.int .i64 a] w fun e w' => e = .returned (.tuple #[.int .i64 (num (-a)), .int .i64 (err (-a))]) ∧ w' = w := by
  by_cases c : a = -9223372036854775808
  · subst c
    rw [num_out (by omega), err_out (by omega)]
    go_enter Tryd.func12, Tryd.ntmps12
    go_wp2
    go_ret2
    exact ⟨rfl, rfl⟩
  · rw [num_in (by omega) (by omega), err_in (by omega) (by omega)]
    go_enter Tryd.func12, Tryd.ntmps12
    go_wp2
    go_ret2
    exact ⟨rfl, rfl⟩

theorem fine_same (x e : Int) (w : World) :
    Calls Tryd.prog 17 #[.int .i64 x, .int .i64 e, .int .i64 x, .int .i64 e] w fun r w' => r = .returned (.bool true) ∧ w' = w := by
  go_enter Tryd.func17, Tryd.ntmps17
  go_wp2
  go_ret
  exact ⟨rfl, rfl⟩

theorem isShift (k : Int) (w : World) :
    Calls Tryd.prog 39 #[.int .i64 k] w fun r w' => r = .returned (.bool (decide (0 ≤ k) && decide (k ≤ 63))) ∧ w' = w := by
  by_cases c : 0 ≤ k
  · by_cases d : k ≤ 63
    · go_enter Tryd.func39, Tryd.ntmps39
      go_wp2
      go_ret
      simp [c, d]
    · go_enter Tryd.func39, Tryd.ntmps39
      go_wp2
      go_ret
      simp [d]
  · go_enter Tryd.func39, Tryd.ntmps39
    go_wp2
    go_ret
    simp
    omega
end Go.Proofs.YtjcobebabpeogaaDoor.Base

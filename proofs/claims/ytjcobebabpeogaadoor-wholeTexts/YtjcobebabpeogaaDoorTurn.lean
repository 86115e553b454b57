/- Contracts of the conversions of packages whole and stencilref1. -/
import Derived.Test.YtjcobebabpeogaaDoorMul
namespace Go.Proofs.YtjcobebabpeogaaDoor.Base
set_option linter.unusedVariables false
open Go.ChangeShapes Go.WideShapes Go.ChangeAt Go.RowKit Go.Proofs.YtjcobebabpeogaaDoor.Sums

def tval (m : Int) (s : Bool) (a : Int) : Int := if s then (a + m / 2) % m - m / 2 else a % m
def mods (bits : Int) : Int := if bits = 8 then 256 else if bits = 16 then 65536 else if bits = 32 then 4294967296 else 0
def tnum (a bits : Int) (s : Bool) : Int := if mods bits = 0 then 0 else tval (mods bits) s a
def terr (bits : Int) : Int := if mods bits = 0 then 103 else 0
theorem wrap_i8 (a : Int) : IntKind.i8.wrap a = (a + 128) % 256 - 128 := by
  simp only [IntKind.wrap, IntKind.bits, IntKind.signed, Bool.true_and, decide_eq_true_eq, Nat.reduceSub, Int.reducePow, ge_iff_le]
  split <;> omega
theorem wrap_u16 (a : Int) : IntKind.u16.wrap a = a % 65536 := by
  simp [IntKind.wrap, IntKind.bits, IntKind.signed]
theorem wrap_i16 (a : Int) : IntKind.i16.wrap a = (a + 32768) % 65536 - 32768 := by
  simp only [IntKind.wrap, IntKind.bits, IntKind.signed, Bool.true_and, decide_eq_true_eq, Nat.reduceSub, Int.reducePow, ge_iff_le]
  split <;> omega
theorem wrap_i32 (a : Int) : IntKind.i32.wrap a = (a + 2147483648) % 4294967296 - 2147483648 := by
  simp only [IntKind.wrap, IntKind.bits, IntKind.signed, Bool.true_and, decide_eq_true_eq, Nat.reduceSub, Int.reducePow, ge_iff_le]
  split <;> omega


theorem rto16s_core (a k : Int) (a0 : -9223372036854775808 ≤ a) (a1 : a ≤ 9223372036854775807) (hm : Hid ((2 : Int) ^ k.toNat = 65536)) (k0 : 0 ≤ k) (k1 : k ≤ 63) (p0 : (0 : Int) < 2 ^ k.toNat) (p1 : (2 : Int) ^ k.toNat ≤ 9223372036854775808)
    (g8 : (k != 8) = true) (g16 : (k != 16) = false)
    (r0 : 0 ≤ (a.natAbs : Int) % 2 ^ k.toNat) (r1 : (a.natAbs : Int) % 2 ^ k.toNat < 2 ^ k.toNat) (w : World) :
    Calls Tryd.prog 28 #[.int .i64 a, .int .i64 k, .bool true] w fun e w' => e = .returned (.tuple #[.int .i64 ((a + 32768) % 65536 - 32768), .int .i64 0]) ∧ w' = w := by
  by_cases ca : a < 0
  all_goals
    go_enter Tryd.func28, Tryd.ntmps28
    go_wp2_with (first | (go_at_call 37; refine (rsize _ (by omega) (by omega) _).mono ?_; rintro e w' ⟨rfl, rfl⟩) | (go_at_call 38; refine (back0 _ _ (by omega) (by omega) _).mono ?_; rintro e w' ⟨rfl, rfl⟩))
    all_goals go_ret2
    all_goals
      have e := hm.out
      have er : (a.natAbs : Int) % 2 ^ k.toNat = (a.natAbs : Int) % 65536 := by rw [e]
      have eh : (2 : Int) ^ k.toNat / 2 = 32768 := by rw [e]; rfl
      exact ⟨ret2 (by first | (rw [sg_true, num_in (by omega) (by omega)]; omega) | (rw [sg_false, num_in (by omega) (by omega)]; omega)) (by first | (rw [sg_true, err_in (by omega) (by omega)]) | (rw [sg_false, err_in (by omega) (by omega)])), rfl⟩
theorem rto16s (a : Int) (a0 : -9223372036854775808 ≤ a) (a1 : a ≤ 9223372036854775807) (w : World) :
    Calls Tryd.prog 28 #[.int .i64 a, .int .i64 16, .bool true] w fun e w' => e = .returned (.tuple #[.int .i64 ((a + 32768) % 65536 - 32768), .int .i64 0]) ∧ w' = w := by
  have e : (2 : Int) ^ (Int.toNat 16) = 65536 := by rfl
  exact rto16s_core a 16 a0 a1 e (by omega) (by omega) (by rw [e]; omega) (by rw [e]; omega) rfl rfl (by rw [e]; omega) (by rw [e]; omega) w

theorem rto32s_core (a k : Int) (a0 : -9223372036854775808 ≤ a) (a1 : a ≤ 9223372036854775807) (hm : Hid ((2 : Int) ^ k.toNat = 4294967296)) (k0 : 0 ≤ k) (k1 : k ≤ 63) (p0 : (0 : Int) < 2 ^ k.toNat) (p1 : (2 : Int) ^ k.toNat ≤ 9223372036854775808)
    (g8 : (k != 8) = true) (g16 : (k != 16) = true) (g32 : (k != 32) = false)
    (r0 : 0 ≤ (a.natAbs : Int) % 2 ^ k.toNat) (r1 : (a.natAbs : Int) % 2 ^ k.toNat < 2 ^ k.toNat) (w : World) :
    Calls Tryd.prog 28 #[.int .i64 a, .int .i64 k, .bool true] w fun e w' => e = .returned (.tuple #[.int .i64 ((a + 2147483648) % 4294967296 - 2147483648), .int .i64 0]) ∧ w' = w := by
  by_cases ca : a < 0
  all_goals
    go_enter Tryd.func28, Tryd.ntmps28
    go_wp2_with (first | (go_at_call 37; refine (rsize _ (by omega) (by omega) _).mono ?_; rintro e w' ⟨rfl, rfl⟩) | (go_at_call 38; refine (back0 _ _ (by omega) (by omega) _).mono ?_; rintro e w' ⟨rfl, rfl⟩))
    all_goals go_ret2
    all_goals
      have e := hm.out
      have er : (a.natAbs : Int) % 2 ^ k.toNat = (a.natAbs : Int) % 4294967296 := by rw [e]
      have eh : (2 : Int) ^ k.toNat / 2 = 2147483648 := by rw [e]; rfl
      exact ⟨ret2 (by first | (rw [sg_true, num_in (by omega) (by omega)]; omega) | (rw [sg_false, num_in (by omega) (by omega)]; omega)) (by first | (rw [sg_true, err_in (by omega) (by omega)]) | (rw [sg_false, err_in (by omega) (by omega)])), rfl⟩
theorem rto32s (a : Int) (a0 : -9223372036854775808 ≤ a) (a1 : a ≤ 9223372036854775807) (w : World) :
    Calls Tryd.prog 28 #[.int .i64 a, .int .i64 32, .bool true] w fun e w' => e = .returned (.tuple #[.int .i64 ((a + 2147483648) % 4294967296 - 2147483648), .int .i64 0]) ∧ w' = w := by
  have e : (2 : Int) ^ (Int.toNat 32) = 4294967296 := by rfl
  exact rto32s_core a 32 a0 a1 e (by omega) (by omega) (by rw [e]; omega) (by rw [e]; omega) rfl rfl rfl (by rw [e]; omega) (by rw [e]; omega) w
theorem to8s (a : Int) (w : World) :
    Calls Tryd.prog 27 #[.int .i64 a, .int .i64 8, .bool true] w fun e w' => e = .returned (.tuple #[.int .i64 ((a + 128) % 256 - 128), .int .i64 0]) ∧ w' = w := by
  go_enter Tryd.func27, Tryd.ntmps27
  go_wp2
  go_ret2
  exact ⟨ret2 (by rw [wrap_i8, wrap64_in' (by omega)]) rfl, rfl⟩
set_option maxRecDepth 100000 in
theorem rto8s (a : Int) (a0 : -9223372036854775808 ≤ a) (a1 : a ≤ 9223372036854775807) (w : World) :
    Calls Tryd.prog 28 #[.int .i64 a, .int .i64 8, .bool true] w fun e w' => e = .returned (.tuple #[.int .i64 ((a + 128) % 256 - 128), .int .i64 0]) ∧ w' = w := by
  by_cases ca : a < 0
  all_goals
    go_enter Tryd.func28, Tryd.ntmps28
    go_wp2_with (first | (go_at_call 37; refine (rsize _ (by omega) (by omega) _).mono ?_; rintro e w' ⟨rfl, rfl⟩) | (go_at_call 38; refine (back0 _ _ (by omega) (by omega) _).mono ?_; rintro e w' ⟨rfl, rfl⟩))
    all_goals go_ret2
    all_goals exact ⟨ret2 (by first | (rw [sg_true, num_in (by omega) (by omega)]; omega) | (rw [sg_false, num_in (by omega) (by omega)]; omega)) (by first | (rw [sg_true, err_in (by omega) (by omega)]) | (rw [sg_false, err_in (by omega) (by omega)])), rfl⟩
theorem to8u (a : Int) (w : World) :
    Calls Tryd.prog 27 #[.int .i64 a, .int .i64 8, .bool false] w fun e w' => e = .returned (.tuple #[.int .i64 (a % 256), .int .i64 0]) ∧ w' = w := by
  go_enter Tryd.func27, Tryd.ntmps27
  go_wp2
  go_ret2
  exact ⟨ret2 (by first | rfl | (rw [wrap_u16, wrap64_in' (by omega)])) rfl, rfl⟩
set_option maxRecDepth 100000 in
theorem rto8u (a : Int) (a0 : -9223372036854775808 ≤ a) (a1 : a ≤ 9223372036854775807) (w : World) :
    Calls Tryd.prog 28 #[.int .i64 a, .int .i64 8, .bool false] w fun e w' => e = .returned (.tuple #[.int .i64 (a % 256), .int .i64 0]) ∧ w' = w := by
  by_cases ca : a < 0
  all_goals
    go_enter Tryd.func28, Tryd.ntmps28
    go_wp2_with (first | (go_at_call 37; refine (rsize _ (by omega) (by omega) _).mono ?_; rintro e w' ⟨rfl, rfl⟩) | (go_at_call 38; refine (back0 _ _ (by omega) (by omega) _).mono ?_; rintro e w' ⟨rfl, rfl⟩))
    all_goals go_ret2
    all_goals exact ⟨ret2 (by first | (rw [sg_true, num_in (by omega) (by omega)]; omega) | (rw [sg_false, num_in (by omega) (by omega)]; omega)) (by first | (rw [sg_true, err_in (by omega) (by omega)]) | (rw [sg_false, err_in (by omega) (by omega)])), rfl⟩
theorem to16s (a : Int) (w : World) :
    Calls Tryd.prog 27 #[.int .i64 a, .int .i64 16, .bool true] w fun e w' => e = .returned (.tuple #[.int .i64 ((a + 32768) % 65536 - 32768), .int .i64 0]) ∧ w' = w := by
  go_enter Tryd.func27, Tryd.ntmps27
  go_wp2
  go_ret2
  exact ⟨ret2 (by rw [wrap_i16, wrap64_in' (by omega)]) rfl, rfl⟩
theorem to16u (a : Int) (w : World) :
    Calls Tryd.prog 27 #[.int .i64 a, .int .i64 16, .bool false] w fun e w' => e = .returned (.tuple #[.int .i64 (a % 65536), .int .i64 0]) ∧ w' = w := by
  go_enter Tryd.func27, Tryd.ntmps27
  go_wp2
  go_ret2
  exact ⟨ret2 (by first | rfl | (rw [wrap_u16, wrap64_in' (by omega)])) rfl, rfl⟩
set_option maxRecDepth 100000 in
theorem rto16u (a : Int) (a0 : -9223372036854775808 ≤ a) (a1 : a ≤ 9223372036854775807) (w : World) :
    Calls Tryd.prog 28 #[.int .i64 a, .int .i64 16, .bool false] w fun e w' => e = .returned (.tuple #[.int .i64 (a % 65536), .int .i64 0]) ∧ w' = w := by
  by_cases ca : a < 0
  all_goals
    go_enter Tryd.func28, Tryd.ntmps28
    go_wp2_with (first | (go_at_call 37; refine (rsize _ (by omega) (by omega) _).mono ?_; rintro e w' ⟨rfl, rfl⟩) | (go_at_call 38; refine (back0 _ _ (by omega) (by omega) _).mono ?_; rintro e w' ⟨rfl, rfl⟩))
    all_goals go_ret2
    all_goals exact ⟨ret2 (by first | (rw [sg_true, num_in (by omega) (by omega)]; omega) | (rw [sg_false, num_in (by omega) (by omega)]; omega)) (by first | (rw [sg_true, err_in (by omega) (by omega)]) | (rw [sg_false, err_in (by omega) (by omega)])), rfl⟩
theorem to32s (a : Int) (w : World) :
    Calls Tryd.prog 27 #[.int .i64 a, .int .i64 32, .bool true] w fun e w' => e = .returned (.tuple #[.int .i64 ((a + 2147483648) % 4294967296 - 2147483648), .int .i64 0]) ∧ w' = w := by
  go_enter Tryd.func27, Tryd.ntmps27
  go_wp2
  go_ret2
  exact ⟨ret2 (by first | (rw [wrap_i32, wrap64_in' (by omega)]) | (unfold wrap32 wrap64; omega) | (unfold wrap32; omega)) rfl, rfl⟩
theorem to32u (a : Int) (w : World) :
    Calls Tryd.prog 27 #[.int .i64 a, .int .i64 32, .bool false] w fun e w' => e = .returned (.tuple #[.int .i64 (a % 4294967296), .int .i64 0]) ∧ w' = w := by
  go_enter Tryd.func27, Tryd.ntmps27
  go_wp2
  go_ret2
  exact ⟨ret2 (by first | rfl | (rw [wrap_u16, wrap64_in' (by omega)])) rfl, rfl⟩
set_option maxRecDepth 100000 in
theorem rto32u (a : Int) (a0 : -9223372036854775808 ≤ a) (a1 : a ≤ 9223372036854775807) (w : World) :
    Calls Tryd.prog 28 #[.int .i64 a, .int .i64 32, .bool false] w fun e w' => e = .returned (.tuple #[.int .i64 (a % 4294967296), .int .i64 0]) ∧ w' = w := by
  by_cases ca : a < 0
  all_goals
    go_enter Tryd.func28, Tryd.ntmps28
    go_wp2_with (first | (go_at_call 37; refine (rsize _ (by omega) (by omega) _).mono ?_; rintro e w' ⟨rfl, rfl⟩) | (go_at_call 38; refine (back0 _ _ (by omega) (by omega) _).mono ?_; rintro e w' ⟨rfl, rfl⟩))
    all_goals go_ret2
    all_goals exact ⟨ret2 (by first | (rw [sg_true, num_in (by omega) (by omega)]; omega) | (rw [sg_false, num_in (by omega) (by omega)]; omega)) (by first | (rw [sg_true, err_in (by omega) (by omega)]) | (rw [sg_false, err_in (by omega) (by omega)])), rfl⟩
theorem to_bad (a bits : Int) (s : Bool) (h8 : bits ≠ 8) (h16 : bits ≠ 16) (h32 : bits ≠ 32) (w : World) :
    Calls Tryd.prog 27 #[.int .i64 a, .int .i64 bits, .bool s] w fun e w' => e = .returned (.tuple #[.int .i64 0, .int .i64 103]) ∧ w' = w := by
  go_enter Tryd.func27, Tryd.ntmps27
  go_wp2
  go_ret2
  exact ⟨rfl, rfl⟩
theorem rto_bad (a bits : Int) (s : Bool) (h8 : bits ≠ 8) (h16 : bits ≠ 16) (h32 : bits ≠ 32) (w : World) :
    Calls Tryd.prog 28 #[.int .i64 a, .int .i64 bits, .bool s] w fun e w' => e = .returned (.tuple #[.int .i64 0, .int .i64 103]) ∧ w' = w := by
  have g8 : (bits != 8) = true := by simp [h8]
  have g16 : (bits != 16) = true := by simp [h16]
  have g32 : (bits != 32) = true := by simp [h32]
  go_enter Tryd.func28, Tryd.ntmps28
  go_wp2
  go_ret2
  exact ⟨rfl, rfl⟩
theorem to (a bits : Int) (s : Bool) (w : World) :
    Calls Tryd.prog 27 #[.int .i64 a, .int .i64 bits, .bool s] w fun e w' => e = .returned (.tuple #[.int .i64 (tnum a bits s), .int .i64 (terr bits)]) ∧ w' = w := by
  by_cases h8 : bits = 8
  · subst h8
    cases s
    · exact to8u a w
    · exact to8s a w
  · by_cases h16 : bits = 16
    · subst h16
      cases s
      · exact to16u a w
      · exact to16s a w
    · by_cases h32 : bits = 32
      · subst h32
        cases s
        · exact to32u a w
        · exact to32s a w
      · have e : mods bits = 0 := by unfold mods; rw [if_neg h8, if_neg h16, if_neg h32]
        unfold tnum terr
        rw [if_pos e, if_pos e]
        exact to_bad a bits s h8 h16 h32 w
theorem rto (a bits : Int) (s : Bool) (a0 : -9223372036854775808 ≤ a) (a1 : a ≤ 9223372036854775807) (w : World) :
    Calls Tryd.prog 28 #[.int .i64 a, .int .i64 bits, .bool s] w fun e w' => e = .returned (.tuple #[.int .i64 (tnum a bits s), .int .i64 (terr bits)]) ∧ w' = w := by
  by_cases h8 : bits = 8
  · subst h8
    cases s
    · exact rto8u a a0 a1 w
    · exact rto8s a a0 a1 w
  · by_cases h16 : bits = 16
    · subst h16
      cases s
      · exact rto16u a a0 a1 w
      · exact rto16s a a0 a1 w
    · by_cases h32 : bits = 32
      · subst h32
        cases s
        · exact rto32u a a0 a1 w
        · exact rto32s a a0 a1 w
      · have e : mods bits = 0 := by unfold mods; rw [if_neg h8, if_neg h16, if_neg h32]
        unfold tnum terr
        rw [if_pos e, if_pos e]
        exact rto_bad a bits s h8 h16 h32 w
/-- Twice is once; and the other sign's answer is the same of both. -/
theorem tval_tval {m : Int} (hm : m = 256 ∨ m = 65536 ∨ m = 4294967296) (s t : Bool) (a : Int) : tval m t (tval m s a) = tval m t a := by
  rcases hm with rfl | rfl | rfl <;> cases s <;> cases t <;> simp only [tval, if_true, Bool.false_eq_true, if_false] <;> omega
theorem mods_or (bits : Int) : mods bits = 0 ∨ (mods bits = 256 ∨ mods bits = 65536 ∨ mods bits = 4294967296) := by
  unfold mods
  split
  · simp
  · split
    · simp
    · split <;> simp
theorem tnum_tnum (a bits : Int) (s t : Bool) : tnum (tnum a bits s) bits t = tnum a bits t := by
  unfold tnum
  rcases mods_or bits with h | h
  · rw [if_pos h]
    simp [h]
  · have hz : mods bits ≠ 0 := by omega
    rw [if_neg hz, if_neg hz, if_neg hz, tval_tval h]
theorem tnum_range (a bits : Int) (s : Bool) : -9223372036854775808 ≤ tnum a bits s ∧ tnum a bits s ≤ 9223372036854775807 := by
  unfold tnum
  rcases mods_or bits with h | h | h | h
  · rw [if_pos h]; omega
  all_goals
    rw [if_neg (by omega), h]
    cases s <;> simp only [tval, if_true, Bool.false_eq_true, if_false] <;> omega
end Go.Proofs.YtjcobebabpeogaaDoor.Base

/- Contract of what every program answers. -/
import Derived.Test.YtipalibkonggkaaOwn
import Derived.Test.YtipalibkonggkaaPlace
import Derived.Test.YtipalibkonggkaaWord
namespace Go.Proofs.Ytipalibkonggkaa.Awake
open Go.ChangeShapes Go.WideShapes Go.ChangeAt Go.RowKit Go.Proofs.Ytipalibkonggkaa.Base Go.Proofs.Ytipalibkonggkaa.Small Go.Proofs.Ytipalibkonggkaa.Length Go.Proofs.Ytipalibkonggkaa.Valid Go.Proofs.Ytipalibkonggkaa.Own Go.Proofs.Ytipalibkonggkaa.Place Go.Proofs.Ytipalibkonggkaa.Word
set_option linter.unusedVariables false

theorem nx {w w1 w2 : World} (h : Below w.heap.size w w1) (b : Below w1.heap.size w1 w2) : Below w.heap.size w w2 := h.trans (b.mono h.size)
theorem valid_b (s : ByteArray) (hs : s.size ≤ 9223372036854775807) (w : World) :
    Calls Try.prog 7 #[.string s] w fun r w' => r = .returned (.tuple #[.int .i64 (vat s), .int .i64 (verr s)]) ∧ Below w.heap.size w w' :=
  (valid_c s hs w).mono fun e w' ⟨h, p, hp⟩ => ⟨h, by subst hp; exact (Below.refl _ w).alloc (Nat.le_refl _) _⟩
theorem bad_a : bad ⟨#[97, 255]⟩ 0 = some 1 := by
  have l0 : len ⟨#[97, 255]⟩ 0 = 1 := by decide +kernel
  rw [bad_step (by decide) (by rw [l0]; decide), l0]
  exact bad_here (by decide) (by decide +kernel)
theorem awake_c (w : World) :
    Calls Try.prog 10 #[] w fun r w' => r = .returned (.bool true) ∧ Below w.heap.size w w' := by
  have c7 : ∀ w, Calls Try.prog 7 #[.string ⟨#[97, 255]⟩] w fun r w' => r = .returned (.tuple #[.int .i64 1, .int .i64 300]) ∧ Below w.heap.size w w' := fun w => by
    have h := valid_b ⟨#[97, 255]⟩ (by decide) w
    have e := verr_some bad_a
    rw [e.1, e.2] at h
    exact h
  have c11 : ∀ w, Calls Try.prog 11 #[.string ⟨#[97, 98, 10, 99]⟩, .int .i64 4] w fun r w' => r = .returned (.tuple #[.int .i64 2, .int .i64 2, .int .i64 0]) ∧ w' = w := fun w => by
    have h := place_c ⟨#[97, 98, 10, 99]⟩ 4 (by decide) w
    have e1 : pln ⟨#[97, 98, 10, 99]⟩ 4 = 2 := by decide +kernel
    have e2 : pcl ⟨#[97, 98, 10, 99]⟩ 4 = 2 := by decide +kernel
    have e3 : perr ⟨#[97, 98, 10, 99]⟩ 4 = 0 := by decide +kernel
    rw [e1, e2, e3] at h
    exact h
  have n1 : ∀ w, Calls Try.prog 13 #[.string ⟨#[97, 95, 49]⟩] w fun r w' => r = .returned (.bool true) ∧ w' = w := fun w => by
    have h := name_c ⟨#[97, 95, 49]⟩ (by decide) w
    rw [show word ⟨#[97, 95, 49]⟩ 95 = true by decide +kernel] at h
    exact h
  have n2 : ∀ w, Calls Try.prog 13 #[.string ⟨#[97, 45, 49]⟩] w fun r w' => r = .returned (.bool false) ∧ w' = w := fun w => by
    have h := name_c ⟨#[97, 45, 49]⟩ (by decide) w
    rw [show word ⟨#[97, 45, 49]⟩ 95 = false by decide +kernel] at h
    exact h
  have t1 : ∀ w, Calls Try.prog 15 #[.string ⟨#[97, 45, 49]⟩] w fun r w' => r = .returned (.bool true) ∧ w' = w := fun w => by
    have h := tag_c ⟨#[97, 45, 49]⟩ (by decide) w
    rw [show word ⟨#[97, 45, 49]⟩ 45 = true by decide +kernel] at h
    exact h
  have t2 : ∀ w, Calls Try.prog 15 #[.string ⟨#[65]⟩] w fun r w' => r = .returned (.bool false) ∧ w' = w := fun w => by
    have h := tag_c ⟨#[65]⟩ (by decide) w
    rw [show word ⟨#[65]⟩ 45 = false by decide +kernel] at h
    exact h
  go_enter Try.func10, Try.ntmps10
  go_wp2_with (first
    | (go_at_call 7; refine (c7 _).mono ?_; rintro e w1 ⟨rfl, b1⟩)
    | (go_at_call 11; refine (c11 _).mono ?_; rintro e w' ⟨rfl, rfl⟩)
    | (go_at_call 9; refine (num_c _ _).mono ?_; rintro e w' ⟨rfl, rfl⟩)
    | (go_at_call 13; refine (n1 _).mono ?_; rintro e w' ⟨rfl, rfl⟩)
    | (go_at_call 13; refine (n2 _).mono ?_; rintro e w' ⟨rfl, rfl⟩)
    | (go_at_call 15; refine (t1 _).mono ?_; rintro e w' ⟨rfl, rfl⟩)
    | (go_at_call 15; refine (t2 _).mono ?_; rintro e w' ⟨rfl, rfl⟩))
  go_ret
  exact ⟨rfl, b1⟩
end Go.Proofs.Ytipalibkonggkaa.Awake

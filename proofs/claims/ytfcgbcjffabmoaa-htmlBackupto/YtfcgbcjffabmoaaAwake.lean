/- Contract of what every program answers. -/
import Derived.Test.YtfcgbcjffabmoaaEsc
import Derived.Test.YtfcgbcjffabmoaaPlain
namespace Go.Proofs.Ytfcgbcjffabmoaa.Awake
open Go.ChangeShapes Go.WideShapes Go.ChangeAt Go.RowKit Go.Proofs.Ytfcgbcjffabmoaa.Base Go.Proofs.Ytfcgbcjffabmoaa.Small
set_option linter.unusedVariables false

theorem nx {w w1 w2 : World} (h : Below w.heap.size w w1) (b : Below w1.heap.size w1 w2) : Below w.heap.size w w2 := h.trans (b.mono h.size)
theorem esc_size (q : Bool) (s : ByteArray) : (escB q s).size ≤ 8 * s.size := by
  have h := esc_len q s.data.toList
  have e : s.data.toList.length = s.size := Array.length_toList
  rw [e] at h
  show (esc q s.data.toList).toArray.size ≤ _
  rw [List.size_toArray]
  exact h
theorem awake_c (w : World) :
    Calls Try.prog 10 #[] w fun r w' => r = .returned (.bool true) ∧ Below w.heap.size w w' := by
  have p1 : ∀ w, Calls Try.prog 11 #[.string ⟨#[38, 97, 109, 112, 59, 108, 116, 59]⟩] w fun r w' => r = .returned (.tuple #[.string ⟨#[38, 108, 116, 59]⟩, .int .i64 0, .int .i64 0]) ∧ Below w.heap.size w w' := fun w => by
    have h := Plain.plain_c ⟨#[38, 97, 109, 112, 59, 108, 116, 59]⟩ (by decide) w
    have e1 : ptext ⟨#[38, 97, 109, 112, 59, 108, 116, 59]⟩ = ⟨#[38, 108, 116, 59]⟩ := by decide +kernel
    have e2 : pat ⟨#[38, 97, 109, 112, 59, 108, 116, 59]⟩ = 0 := by decide +kernel
    have e3 : perr ⟨#[38, 97, 109, 112, 59, 108, 116, 59]⟩ = 0 := by decide +kernel
    rw [e1, e2, e3] at h
    exact h
  have p2 : ∀ w, Calls Try.prog 11 #[.string ⟨#[97, 38, 98]⟩] w fun r w' => r = .returned (.tuple #[.string ⟨#[]⟩, .int .i64 1, .int .i64 400]) ∧ Below w.heap.size w w' := fun w => by
    have h := Plain.plain_c ⟨#[97, 38, 98]⟩ (by decide) w
    have e1 : ptext ⟨#[97, 38, 98]⟩ = ⟨#[]⟩ := by decide +kernel
    have e2 : pat ⟨#[97, 38, 98]⟩ = 1 := by decide +kernel
    have e3 : perr ⟨#[97, 38, 98]⟩ = 400 := by decide +kernel
    rw [e1, e2, e3] at h
    exact h
  have t1 : ∀ w, Calls Try.prog 6 #[.string ⟨#[60, 123, 34]⟩] w fun r w' => r = .returned (.string ⟨#[38, 108, 116, 59, 38, 108, 98, 114, 97, 99, 101, 59, 34]⟩) ∧ Below w.heap.size w w' := fun w => by
    have h := Esc.text_c ⟨#[60, 123, 34]⟩ (by decide) w
    rw [show escB false ⟨#[60, 123, 34]⟩ = ⟨#[38, 108, 116, 59, 38, 108, 98, 114, 97, 99, 101, 59, 34]⟩ by decide +kernel] at h
    exact h
  have t2 : ∀ w, Calls Try.prog 8 #[.string ⟨#[34]⟩] w fun r w' => r = .returned (.string ⟨#[38, 113, 117, 111, 116, 59]⟩) ∧ Below w.heap.size w w' := fun w => by
    have h := Esc.attr_c ⟨#[34]⟩ (by decide) w
    rw [show escB true ⟨#[34]⟩ = ⟨#[38, 113, 117, 111, 116, 59]⟩ by decide +kernel] at h
    exact h
  go_enter Try.func10, Try.ntmps10
  go_wp2_with (first
    | (go_at_call 8; refine (t2 _).mono ?_; rintro e w4 ⟨rfl, b4⟩)
    | (go_at_call 6; refine (t1 _).mono ?_; rintro e w3 ⟨rfl, b3⟩)
    | (go_at_call 11; have z := b1; clear z; refine (p2 _).mono ?_; rintro e w2 ⟨rfl, b2⟩)
    | (go_at_call 11; refine (p1 _).mono ?_; rintro e w1 ⟨rfl, b1⟩)
    | (go_at_call 13; refine (num_c _ _).mono ?_; rintro e w' ⟨rfl, rfl⟩))
  go_ret
  exact ⟨rfl, nx (nx (nx b1 b2) b3) b4⟩
end Go.Proofs.Ytfcgbcjffabmoaa.Awake

/- Templates: Lex at a text that is too long, or no text. -/
import Derived.Test.YtfglbgnjgapehaaLMu
import Derived.Test.YtfglbgnjgapehaaUOwn
namespace Go.Proofs.Ytfglbgnjgapehaa.LLx
open Go.RowKit Go.Proofs.Ytfglbgnjgapehaa.UBase
set_option linter.unusedVariables false

theorem lex_long (s : ByteArray) (h1 : 65536 < s.size) (h2 : s.size ≤ 140737488351232) (w : World) :
    Calls Try.prog 7 #[.string s] w fun e w' => e = .returned (.tuple #[.slice none 0 0, .int .i64 0, .int .i64 1201]) ∧ w' = w := by
  go_enter Try.func7, Try.ntmps7
  go_wp2_with fail
  go_ret3
  exact ⟨rfl, rfl⟩
theorem lex_utf (s : ByteArray) (h1 : s.size ≤ 65536) (h2 : UBase.verr s ≠ 0) (w : World) :
    Calls Try.prog 7 #[.string s] w fun e w' => e = .returned (.tuple #[.slice none 0 0, .int .i64 (UBase.vat s), .int .i64 1200]) ∧ Below w.heap.size w w' := by
  have c := UOwn.valid_c s (by omega) w
  have d : ((UBase.verr s : Int) != 0) = true := by simp; omega
  generalize UBase.vat s = a at *
  generalize UBase.verr s = v at *
  go_enter Try.func7, Try.ntmps7
  go_wp2_with fail
  refine c.mono ?_
  rintro e w1 ⟨rfl, p, rfl⟩
  go_wp2_with fail
  go_ret3
  exact ⟨rfl, (Below.refl _ w).alloc (Nat.le_refl _) _⟩
end Go.Proofs.Ytfglbgnjgapehaa.LLx

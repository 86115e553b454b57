/- Names (package utf). -/
import Derived.Test.YtenhljiibfdckaaUWord
namespace Go.Proofs.Ytenhljiibfdckaa.SNm
open Go.RowKit Go.Proofs.Ytenhljiibfdckaa.UBase
set_option linter.unusedVariables false

theorem Name_c (s : ByteArray) (hs : s.size ≤ 9223372036854775807) (w : World) :
    Calls Try.prog 71 #[.string s] w fun r w' => r = .returned (.bool (UBase.word s 95)) ∧ w' = w := by
  have c1 := UWord.own_c s hs 95 w
  go_enter Try.func71, Try.ntmps71
  go_wp2_with (first | (go_at_call 62; refine c1.mono ?_; rintro e w' ⟨rfl, rfl⟩))
  go_ret
  exact ⟨rfl, rfl⟩
end Go.Proofs.Ytenhljiibfdckaa.SNm

/- Two keys compared. -/
import Derived.Test.YtmoblfdepcjgfaaDoorEq
import Derived.Laws.StructEq
namespace Go.Proofs.YtmoblfdepcjgfaaDoor.KeyEq
open Go.RowKit Go.Proofs.YtmoblfdepcjgfaaDoor.Base Go.Proofs.YtmoblfdepcjgfaaDoor.Eq
set_option linter.unusedVariables false
theorem eqKey (a a' i i' : Int) (s s' : ByteArray) (w : World) : (binOp .eql 37 (.agg #[.int .i64 a, .int .i64 i, .string s]) (.agg #[.int .i64 a', .int .i64 i', .string s'])).run Tryd.prog w = .ok (.bool ((a == a' && i == i') && s.toList == s'.toList)) w := by
  have u3 := Tryd.underlying3
  have u9 := Tryd.underlying9
  have hS : Tryd.prog.underlying 37 = some (.struct (Tryd.prog.fieldsOf 37)) := by kernel_rfl
  have hp : Tryd.prog.stoodInHeld 37 = false := by kernel_rfl
  rw [run_eql_struct, show (10000 : Nat) = 9999 + 1 from rfl, run_equalIn_struct w 9999 37 _ _ hS hp]
  simp only [Program.fieldsOf, Tryd.underlying37]
  go_simp
  by_cases h1 : a = a' <;> by_cases h2 : i = i' <;> by_cases h3 : s.toList = s'.toList <;> simp [h1, h2, h3]
theorem neKey (a a' i i' : Int) (s s' : ByteArray) (w : World) : (binOp .neq 37 (.agg #[.int .i64 a, .int .i64 i, .string s]) (.agg #[.int .i64 a', .int .i64 i', .string s'])).run Tryd.prog w = .ok (.bool (!((a == a' && i == i') && s.toList == s'.toList))) w := by
  have u3 := Tryd.underlying3
  have u9 := Tryd.underlying9
  have hS : Tryd.prog.underlying 37 = some (.struct (Tryd.prog.fieldsOf 37)) := by kernel_rfl
  have hp : Tryd.prog.stoodInHeld 37 = false := by kernel_rfl
  rw [run_neq_struct, show (10000 : Nat) = 9999 + 1 from rfl, run_equalIn_struct w 9999 37 _ _ hS hp]
  simp only [Program.fieldsOf, Tryd.underlying37]
  go_simp
  by_cases h1 : a = a' <;> by_cases h2 : i = i' <;> by_cases h3 : s.toList = s'.toList <;> simp [h1, h2, h3]
end Go.Proofs.YtmoblfdepcjgfaaDoor.KeyEq

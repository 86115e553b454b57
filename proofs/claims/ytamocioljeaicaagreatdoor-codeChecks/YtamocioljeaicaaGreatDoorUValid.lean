/- Contracts of Valid, the program's and the document's. -/
import Derived.Test.YtamocioljeaicaaGreatDoorULength
import Derived.LoopTactic
namespace Go.Proofs.YtamocioljeaicaaGreatDoor.UValid
open Go.ChangeShapes Go.WideShapes Go.ChangeAt Go.RowKit Go.Proofs.YtamocioljeaicaaGreatDoor.UBase Go.Proofs.YtamocioljeaicaaGreatDoor.USmall Go.Proofs.YtamocioljeaicaaGreatDoor.ULength
set_option linter.unusedVariables false

theorem vat_of {s : ByteArray} {o : Option Nat} (h : bad s 0 = o) : vat s = o.getD 0 := by unfold vat; rw [h]
theorem verr_none {s : ByteArray} (h : bad s 0 = none) : vat s = 0 ∧ verr s = 0 := by unfold vat verr; rw [h]; simp
theorem verr_some {s : ByteArray} {i : Nat} (h : bad s 0 = some i) : vat s = i ∧ verr s = 300 := by unfold vat verr; rw [h]; simp
end Go.Proofs.YtamocioljeaicaaGreatDoor.UValid

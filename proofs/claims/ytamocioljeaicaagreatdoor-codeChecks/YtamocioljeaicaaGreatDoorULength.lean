/- Contract of the length of a character. -/
import Derived.Test.YtamocioljeaicaaGreatDoorUSmall
namespace Go.Proofs.YtamocioljeaicaaGreatDoor.ULength
open Go.ChangeShapes Go.WideShapes Go.ChangeAt Go.RowKit Go.Proofs.YtamocioljeaicaaGreatDoor.UBase Go.Proofs.YtamocioljeaicaaGreatDoor.USmall
set_option linter.unusedVariables false

theorem tl_in {s : ByteArray} {i : Nat} (h : tl s i = true) : i < s.size := by unfold tl at h; simp at h; exact h.1
theorem tl_of {s : ByteArray} {i : Nat} (h : tl s i = true) : 128 ≤ at' s i ∧ at' s i < 192 := (tl_iff s i).mp h
theorem not_tl {s : ByteArray} {i : Nat} (h : tl s i = false) : ¬ (128 ≤ at' s i ∧ at' s i < 192) := fun e => by rw [(tl_iff s i).mpr e] at h; cases h
end Go.Proofs.YtamocioljeaicaaGreatDoor.ULength

/- How deep a value is nested: contracts of value and ShallowValue. -/
import Derived.Test.YtamocioljeaicaaGreatDoorBase
import Derived.LoopTactic
import Derived.LoopN
namespace Go.Proofs.YtamocioljeaicaaGreatDoor.Shallow
open Go.RowKit Go.Proofs.YtamocioljeaicaaGreatDoor.Base
set_option linter.unusedVariables false

def depL : List C → Nat
  | [] => 0
  | .mk _ _ _ _ _ l :: cs => max (depL l + 1) (depL cs)
def dep : C → Nat
  | .mk _ _ _ _ _ l => depL l + 1
theorem depL_cons (c : C) (cs : List C) : depL (c :: cs) = max (dep c) (depL cs) := by
  obtain ⟨k, b, i, s, n, l⟩ := c
  rw [depL, dep]
theorem depL_le {l : List C} {q : Nat} : depL l ≤ q ↔ ∀ j (h : j < l.length), dep l[j] ≤ q := by
  induction l with
  | nil => simp [depL]
  | cons c cs ih =>
    rw [depL_cons, Nat.max_le, ih]
    constructor
    · rintro ⟨h1, h2⟩ j hj
      cases j with
      | zero => exact h1
      | succ j => exact h2 j (by simpa using hj)
    · intro h
      exact ⟨h 0 (by simp), fun j hj => h (j + 1) (by simpa using hj)⟩
end Go.Proofs.YtamocioljeaicaaGreatDoor.Shallow

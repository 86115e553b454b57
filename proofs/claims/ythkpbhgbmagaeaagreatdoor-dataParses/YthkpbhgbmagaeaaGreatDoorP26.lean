import Derived.Test.YthkpbhgbmagaeaaGreatDoorP08
import Derived.Test.YthkpbhgbmagaeaaGreatDoorP18
namespace Go.Proofs.YthkpbhgbmagaeaaGreatDoor.Tally
open Go.RowKit Go.Proofs.YthkpbhgbmagaeaaGreatDoor.Base Go.Proofs.YthkpbhgbmagaeaaGreatDoor.Eq Go.Proofs.YthkpbhgbmagaeaaGreatDoor.Names Go.Proofs.YthkpbhgbmagaeaaGreatDoor.Pure Go.Proofs.YthkpbhgbmagaeaaGreatDoor.Fault Go.Proofs.YthkpbhgbmagaeaaGreatDoor.Walk Go.Proofs.YthkpbhgbmagaeaaGreatDoor.Measure Go.Proofs.YthkpbhgbmagaeaaGreatDoor.Part Go.Proofs.YthkpbhgbmagaeaaGreatDoor.Shallow
set_option linter.unusedVariables false
def up (x : Nat × C) : Nat × C := (x.1 + 1, x.2)
end Go.Proofs.YthkpbhgbmagaeaaGreatDoor.Tally
namespace Go.Proofs.YthkpbhgbmagaeaaGreatDoor.Look
open Go.RowKit Go.Proofs.YthkpbhgbmagaeaaGreatDoor.Base Go.Proofs.YthkpbhgbmagaeaaGreatDoor.Fault Go.Proofs.YthkpbhgbmagaeaaGreatDoor.Walk Go.Proofs.YthkpbhgbmagaeaaGreatDoor.Measure Go.Proofs.YthkpbhgbmagaeaaGreatDoor.Shallow Go.Proofs.YthkpbhgbmagaeaaGreatDoor.Tally
set_option linter.unusedVariables false
/-- The first fault among parts in row, from a number on. -/
def er : Nat → List (Nat × C) → Int
 | _, [] => 0
 | k, (d, c) :: r => if ft c d (k + 1 : Nat) = 0 then er (k + 1) r else ft c d (k + 1 : Nat)
end Go.Proofs.YthkpbhgbmagaeaaGreatDoor.Look

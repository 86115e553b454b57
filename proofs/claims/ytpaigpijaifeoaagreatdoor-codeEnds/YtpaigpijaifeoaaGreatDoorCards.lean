/-
  DERIVED. GIVEN WITH THE SEED: THE CARDS: each row of YtpaigpijaifeoaaGreatDoorRows.lean that lists a variable, with what it lists TIED to the program's text (the seventh form; the later family's looks); each row that meets fmt, with fmt's text TOLD by the authors' own Lean function (tested against real Go, not proved from fmt's source: count such statements apart). THE CARD IS WHAT COUNTS. Prove the row's statement (the work); the ties are given (YtpaigpijaifeoaaGreatDoorTie.lean); close each card by the builder's one call (the guide's Derived/Test/ToyasCard.lean, 'card_holds'). Laid BY PROGRAM, IN A SANDBOX (cutbox-door.mjs). By AI agents, Wed Nov 11 2026. No macro, syntax, notation, axiom, sorry.
-/
import Derived.Test.YtpaigpijaifeoaaGreatDoorRows
import GoSem.ClaimSeven
namespace Go.Proofs.YtpaigpijaifeoaaGreatDoor
namespace Rows

/-- THE TIED CARD OF 'stencillaw16.RenderJoins'. -/
def renderJoinsCard : Claim7 := { stood := { row := renderJoinsRow, standIns := [], harness := (true, "af804a728c2c5dff37f5be0c4b1af60bdc865382fed45503474b79b318c7006c"), looks := true }, kinds := [], alts := [], laidByText := true, laidKinds := [.data, .data, .data], laidTests := true, laidLooks := .later }
def RenderJoinsCardSaid : Prop := Claim7.holds Tryz.pinned (.plain (OpenSpec.ofChange renderJoinsSpec)) renderJoinsCard

/-- THE TIED CARD OF 'stencillaw20.CodeSays'. -/
def codeSaysCard : Claim7 := { stood := { row := codeSaysRow, standIns := [], harness := (true, "af804a728c2c5dff37f5be0c4b1af60bdc865382fed45503474b79b318c7006c"), looks := true }, kinds := [], alts := [], laidByText := true, laidKinds := [.data, .data, .data], laidTests := true, laidLooks := .later }
def CodeSaysCardSaid : Prop := Claim7.holds Tryz.pinned (.plain (OpenSpec.ofChange codeSaysSpec)) codeSaysCard

/-- THE TIED CARD OF 'stencillaw20.CodeEnds'. -/
def codeEndsCard : Claim7 := { stood := { row := codeEndsRow, standIns := [], harness := (true, "af804a728c2c5dff37f5be0c4b1af60bdc865382fed45503474b79b318c7006c"), looks := true }, kinds := [], alts := [], laidByText := true, laidKinds := [.data, .data, .data], laidTests := true, laidLooks := .later }
def CodeEndsCardSaid : Prop := Claim7.holds Tryz.pinned (.plain (OpenSpec.ofChange codeEndsSpec)) codeEndsCard

/-- THE SECOND FORM's CARD OF 'stencillaw16.RenderJoins'. -/
def renderJoinsUptoCard : Claim7 := { stood := { row := renderJoinsUptoRow, standIns := [], harness := (true, "af804a728c2c5dff37f5be0c4b1af60bdc865382fed45503474b79b318c7006c"), looks := true }, kinds := [], alts := [], laidByText := true, laidKinds := [.data, .data, .data], laidTests := true, laidLooks := .later }
def RenderJoinsUptoCardSaid : Prop := Claim7.holds Tryz.pinned (.plain (OpenSpec.upto renderJoinsSpec)) renderJoinsUptoCard

/-- THE SECOND FORM's CARD OF 'stencillaw20.CodeSays'. -/
def codeSaysUptoCard : Claim7 := { stood := { row := codeSaysUptoRow, standIns := [], harness := (true, "af804a728c2c5dff37f5be0c4b1af60bdc865382fed45503474b79b318c7006c"), looks := true }, kinds := [], alts := [], laidByText := true, laidKinds := [.data, .data, .data], laidTests := true, laidLooks := .later }
def CodeSaysUptoCardSaid : Prop := Claim7.holds Tryz.pinned (.plain (OpenSpec.upto codeSaysSpec)) codeSaysUptoCard

/-- THE SECOND FORM's CARD OF 'stencillaw20.CodeEnds'. -/
def codeEndsUptoCard : Claim7 := { stood := { row := codeEndsUptoRow, standIns := [], harness := (true, "af804a728c2c5dff37f5be0c4b1af60bdc865382fed45503474b79b318c7006c"), looks := true }, kinds := [], alts := [], laidByText := true, laidKinds := [.data, .data, .data], laidTests := true, laidLooks := .later }
def CodeEndsUptoCardSaid : Prop := Claim7.holds Tryz.pinned (.plain (OpenSpec.upto codeEndsSpec)) codeEndsUptoCard
end Rows
end Go.Proofs.YtpaigpijaifeoaaGreatDoor

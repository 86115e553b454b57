/-
  DERIVED. GIVEN WITH THE SEED: THE CARDS: each row of YtiijfmdfccdagaaGreatDoorRows.lean that lists a variable, with what it lists TIED to the program's text (the seventh form; the later family's looks); each row that meets fmt, with fmt's text TOLD by the authors' own Lean function (tested against real Go, not proved from fmt's source: count such statements apart). THE CARD IS WHAT COUNTS. Prove the row's statement (the work); the ties are given (YtiijfmdfccdagaaGreatDoorTie.lean); close each card by the builder's one call (the guide's Derived/Test/ToyasCard.lean, 'card_holds'). Laid BY PROGRAM, IN A SANDBOX (cutbox-door.mjs). By AI agents, Wed Nov 11 2026. No macro, syntax, notation, axiom, sorry.
-/
import Derived.Test.YtiijfmdfccdagaaGreatDoorRows
import GoSem.ClaimSeven
namespace Go.Proofs.YtiijfmdfccdagaaGreatDoor
namespace Rows

/-- THE TIED CARD OF 'stencillaw16.RenderMay'. -/
def renderMayCard : Claim7 := { stood := { row := renderMayRow, standIns := [], harness := (true, "803aecfaff93a86a11f8d75947790ede581c8ee5600520d5f314f793d7b0a36d"), looks := true }, kinds := [], alts := [], laidByText := true, laidKinds := [.data, .data, .data], laidTests := true, laidLooks := .later }
def RenderMayCardSaid : Prop := Claim7.holds Tryz.pinned (.plain (OpenSpec.ofChange renderMaySpec)) renderMayCard

/-- THE TIED CARD OF 'stencillaw16.RenderJoins'. -/
def renderJoinsCard : Claim7 := { stood := { row := renderJoinsRow, standIns := [], harness := (true, "803aecfaff93a86a11f8d75947790ede581c8ee5600520d5f314f793d7b0a36d"), looks := true }, kinds := [], alts := [], laidByText := true, laidKinds := [.data, .data, .data], laidTests := true, laidLooks := .later }
def RenderJoinsCardSaid : Prop := Claim7.holds Tryz.pinned (.plain (OpenSpec.ofChange renderJoinsSpec)) renderJoinsCard

/-- THE TIED CARD OF 'stencillaw16.RenderLoops'. -/
def renderLoopsCard : Claim7 := { stood := { row := renderLoopsRow, standIns := [], harness := (true, "803aecfaff93a86a11f8d75947790ede581c8ee5600520d5f314f793d7b0a36d"), looks := true }, kinds := [], alts := [], laidByText := true, laidKinds := [.data, .data, .data], laidTests := true, laidLooks := .later }
def RenderLoopsCardSaid : Prop := Claim7.holds Tryz.pinned (.plain (OpenSpec.ofChange renderLoopsSpec)) renderLoopsCard

/-- THE TIED CARD OF 'stencillaw16.RenderAttrs'. -/
def renderAttrsCard : Claim7 := { stood := { row := renderAttrsRow, standIns := [], harness := (true, "803aecfaff93a86a11f8d75947790ede581c8ee5600520d5f314f793d7b0a36d"), looks := true }, kinds := [], alts := [], laidByText := true, laidKinds := [.data, .data, .data], laidTests := true, laidLooks := .later }
def RenderAttrsCardSaid : Prop := Claim7.holds Tryz.pinned (.plain (OpenSpec.ofChange renderAttrsSpec)) renderAttrsCard

/-- THE SECOND FORM's CARD OF 'stencillaw16.RenderMay'. -/
def renderMayUptoCard : Claim7 := { stood := { row := renderMayUptoRow, standIns := [], harness := (true, "803aecfaff93a86a11f8d75947790ede581c8ee5600520d5f314f793d7b0a36d"), looks := true }, kinds := [], alts := [], laidByText := true, laidKinds := [.data, .data, .data], laidTests := true, laidLooks := .later }
def RenderMayUptoCardSaid : Prop := Claim7.holds Tryz.pinned (.plain (OpenSpec.upto renderMaySpec)) renderMayUptoCard

/-- THE SECOND FORM's CARD OF 'stencillaw16.RenderJoins'. -/
def renderJoinsUptoCard : Claim7 := { stood := { row := renderJoinsUptoRow, standIns := [], harness := (true, "803aecfaff93a86a11f8d75947790ede581c8ee5600520d5f314f793d7b0a36d"), looks := true }, kinds := [], alts := [], laidByText := true, laidKinds := [.data, .data, .data], laidTests := true, laidLooks := .later }
def RenderJoinsUptoCardSaid : Prop := Claim7.holds Tryz.pinned (.plain (OpenSpec.upto renderJoinsSpec)) renderJoinsUptoCard

/-- THE SECOND FORM's CARD OF 'stencillaw16.RenderLoops'. -/
def renderLoopsUptoCard : Claim7 := { stood := { row := renderLoopsUptoRow, standIns := [], harness := (true, "803aecfaff93a86a11f8d75947790ede581c8ee5600520d5f314f793d7b0a36d"), looks := true }, kinds := [], alts := [], laidByText := true, laidKinds := [.data, .data, .data], laidTests := true, laidLooks := .later }
def RenderLoopsUptoCardSaid : Prop := Claim7.holds Tryz.pinned (.plain (OpenSpec.upto renderLoopsSpec)) renderLoopsUptoCard

/-- THE SECOND FORM's CARD OF 'stencillaw16.RenderAttrs'. -/
def renderAttrsUptoCard : Claim7 := { stood := { row := renderAttrsUptoRow, standIns := [], harness := (true, "803aecfaff93a86a11f8d75947790ede581c8ee5600520d5f314f793d7b0a36d"), looks := true }, kinds := [], alts := [], laidByText := true, laidKinds := [.data, .data, .data], laidTests := true, laidLooks := .later }
def RenderAttrsUptoCardSaid : Prop := Claim7.holds Tryz.pinned (.plain (OpenSpec.upto renderAttrsSpec)) renderAttrsUptoCard
end Rows
end Go.Proofs.YtiijfmdfccdagaaGreatDoor

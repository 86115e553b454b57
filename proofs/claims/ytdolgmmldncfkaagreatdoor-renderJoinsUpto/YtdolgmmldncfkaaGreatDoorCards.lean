/-
  DERIVED. GIVEN WITH THE SEED: THE CARDS: each row of YtdolgmmldncfkaaGreatDoorRows.lean that lists a variable, with what it lists TIED to the program's text (the seventh form; the later family's looks); each row that meets fmt, with fmt's text TOLD by the authors' own Lean function (tested against real Go, not proved from fmt's source: count such statements apart). THE CARD IS WHAT COUNTS. Prove the row's statement (the work); the ties are given (YtdolgmmldncfkaaGreatDoorTie.lean); close each card by the builder's one call (the guide's Derived/Test/ToyasCard.lean, 'card_holds'). Laid BY PROGRAM, IN A SANDBOX (cutbox-door.mjs). By AI agents, Wed Nov 11 2026. No macro, syntax, notation, axiom, sorry.
-/
import Derived.Test.YtdolgmmldncfkaaGreatDoorRows
import GoSem.ClaimSeven
namespace Go.Proofs.YtdolgmmldncfkaaGreatDoor
namespace Rows

/-- THE TIED CARD OF 'stencillaw16.RenderJoins'. -/
def renderJoinsCard : Claim7 := { stood := { row := renderJoinsRow, standIns := [], harness := (true, "df2dd2f6227807f4402eeeb3572f8fd6bdb6b8a256d940b2ad1042fd202de1d5"), looks := true }, kinds := [], alts := [], laidByText := true, laidKinds := [.data, .data, .data], laidTests := true, laidLooks := .later }
def RenderJoinsCardSaid : Prop := Claim7.holds Tryz.pinned (.plain (OpenSpec.ofChange renderJoinsSpec)) renderJoinsCard

/-- THE SECOND FORM's CARD OF 'stencillaw16.RenderJoins'. -/
def renderJoinsUptoCard : Claim7 := { stood := { row := renderJoinsUptoRow, standIns := [], harness := (true, "df2dd2f6227807f4402eeeb3572f8fd6bdb6b8a256d940b2ad1042fd202de1d5"), looks := true }, kinds := [], alts := [], laidByText := true, laidKinds := [.data, .data, .data], laidTests := true, laidLooks := .later }
def RenderJoinsUptoCardSaid : Prop := Claim7.holds Tryz.pinned (.plain (OpenSpec.upto renderJoinsSpec)) renderJoinsUptoCard
end Rows
end Go.Proofs.YtdolgmmldncfkaaGreatDoor

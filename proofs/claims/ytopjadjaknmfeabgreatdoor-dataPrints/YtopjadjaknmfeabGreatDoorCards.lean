/-
  DERIVED. GIVEN WITH THE SEED: THE CARDS: each row of YtopjadjaknmfeabGreatDoorRows.lean that lists a variable, with what it lists TIED to the program's text (the seventh form; the later family's looks); each row that meets fmt, with fmt's text TOLD by the authors' own Lean function (tested against real Go, not proved from fmt's source: count such statements apart). THE CARD IS WHAT COUNTS. Prove the row's statement (the work); the ties are given (YtopjadjaknmfeabGreatDoorTie.lean); close each card by the builder's one call (the guide's Derived/Test/ToyasCard.lean, 'card_holds'). Laid BY PROGRAM, IN A SANDBOX (cutbox-door.mjs). By AI agents, Wed Nov 11 2026. No macro, syntax, notation, axiom, sorry.
-/
import Derived.Test.YtopjadjaknmfeabGreatDoorRows
import GoSem.ClaimSeven
namespace Go.Proofs.YtopjadjaknmfeabGreatDoor
namespace Rows

/-- THE TIED CARD OF 'stencillaw6.DataParses'. -/
def dataParsesCard : Claim7 := { stood := { row := dataParsesRow, standIns := [], harness := (true, "d86426343e5f01e289ff27e152e69469958ab5000671ceb336f3a56af1741bfc"), looks := true }, kinds := [], alts := [], laidByText := true, laidKinds := [.data, .data, .data, .data, .pinned], laidTests := true, laidLooks := .later }
def DataParsesCardSaid : Prop := Claim7.holds Tryz.pinned (.plain (OpenSpec.ofChange dataParsesSpec)) dataParsesCard

/-- THE TIED CARD OF 'stencillaw6.DataPrints'. -/
def dataPrintsCard : Claim7 := { stood := { row := dataPrintsRow, standIns := [], harness := (true, "d86426343e5f01e289ff27e152e69469958ab5000671ceb336f3a56af1741bfc"), looks := true }, kinds := [], alts := [], laidByText := true, laidKinds := [.data, .data, .data, .data, .pinned], laidTests := true, laidLooks := .later }
def DataPrintsCardSaid : Prop := Claim7.holds Tryz.pinned (.plain (OpenSpec.ofChange dataPrintsSpec)) dataPrintsCard

/-- THE SECOND FORM's CARD OF 'stencillaw6.DataParses'. -/
def dataParsesUptoCard : Claim7 := { stood := { row := dataParsesUptoRow, standIns := [], harness := (true, "d86426343e5f01e289ff27e152e69469958ab5000671ceb336f3a56af1741bfc"), looks := true }, kinds := [], alts := [], laidByText := true, laidKinds := [.data, .data, .data, .data, .pinned], laidTests := true, laidLooks := .later }
def DataParsesUptoCardSaid : Prop := Claim7.holds Tryz.pinned (.plain (OpenSpec.upto dataParsesSpec)) dataParsesUptoCard

/-- THE SECOND FORM's CARD OF 'stencillaw6.DataPrints'. -/
def dataPrintsUptoCard : Claim7 := { stood := { row := dataPrintsUptoRow, standIns := [], harness := (true, "d86426343e5f01e289ff27e152e69469958ab5000671ceb336f3a56af1741bfc"), looks := true }, kinds := [], alts := [], laidByText := true, laidKinds := [.data, .data, .data, .data, .pinned], laidTests := true, laidLooks := .later }
def DataPrintsUptoCardSaid : Prop := Claim7.holds Tryz.pinned (.plain (OpenSpec.upto dataPrintsSpec)) dataPrintsUptoCard
end Rows
end Go.Proofs.YtopjadjaknmfeabGreatDoor

/-
  DERIVED. GIVEN WITH THE SEED: THE CARDS: each row of YtopjadjaknmfeabDoorRows.lean that lists a variable, with what it lists TIED to the program's text (the seventh form; the later family's looks); each row that meets fmt, with fmt's text TOLD by the authors' own Lean function (tested against real Go, not proved from fmt's source: count such statements apart). THE CARD IS WHAT COUNTS. Prove the row's statement (the work); the ties are given (YtopjadjaknmfeabDoorTie.lean); close each card by the builder's one call (the guide's Derived/Test/ToyasCard.lean, 'card_holds'). Laid BY PROGRAM, IN A SANDBOX (cutbox-door.mjs). By AI agents, Wed Nov 11 2026. No macro, syntax, notation, axiom, sorry.
-/
import Derived.Test.YtopjadjaknmfeabDoorRows
import GoSem.ClaimSeven
namespace Go.Proofs.YtopjadjaknmfeabDoor
namespace Rows

/-- THE TIED CARD OF 'stencillaw6.DataBack'. -/
def dataBackCard : Claim7 := { stood := { row := dataBackRow, standIns := [], harness := (true, "90b88f0345abca729e9ef615fe9c15b698dc92b8c2df28c7f0a0444d786f025d"), looks := true }, kinds := [], alts := [], laidByText := true, laidKinds := [.data, .data, .data, .data, .pinned], laidTests := true, laidLooks := .later }
def DataBackCardSaid : Prop := Claim7.holds Tryd.pinned (.plain (OpenSpec.ofChange dataBackSpec)) dataBackCard

/-- THE TIED CARD OF 'stencillaw6.DataForms'. -/
def dataFormsCard : Claim7 := { stood := { row := dataFormsRow, standIns := [], harness := (true, "90b88f0345abca729e9ef615fe9c15b698dc92b8c2df28c7f0a0444d786f025d"), looks := true }, kinds := [], alts := [], laidByText := true, laidKinds := [.data, .data, .data, .data, .pinned], laidTests := true, laidLooks := .later }
def DataFormsCardSaid : Prop := Claim7.holds Tryd.pinned (.plain (OpenSpec.ofChange dataFormsSpec)) dataFormsCard

/-- THE TIED CARD OF 'stencillaw6.DataCuts'. -/
def dataCutsCard : Claim7 := { stood := { row := dataCutsRow, standIns := [], harness := (true, "90b88f0345abca729e9ef615fe9c15b698dc92b8c2df28c7f0a0444d786f025d"), looks := true }, kinds := [], alts := [], laidByText := true, laidKinds := [.data, .data, .data, .data, .pinned], laidTests := true, laidLooks := .later }
def DataCutsCardSaid : Prop := Claim7.holds Tryd.pinned (.plain (OpenSpec.ofChange dataCutsSpec)) dataCutsCard

/-- THE SECOND FORM's CARD OF 'stencillaw6.DataBack'. -/
def dataBackUptoCard : Claim7 := { stood := { row := dataBackUptoRow, standIns := [], harness := (true, "90b88f0345abca729e9ef615fe9c15b698dc92b8c2df28c7f0a0444d786f025d"), looks := true }, kinds := [], alts := [], laidByText := true, laidKinds := [.data, .data, .data, .data, .pinned], laidTests := true, laidLooks := .later }
def DataBackUptoCardSaid : Prop := Claim7.holds Tryd.pinned (.plain (OpenSpec.upto dataBackSpec)) dataBackUptoCard

/-- THE SECOND FORM's CARD OF 'stencillaw6.DataForms'. -/
def dataFormsUptoCard : Claim7 := { stood := { row := dataFormsUptoRow, standIns := [], harness := (true, "90b88f0345abca729e9ef615fe9c15b698dc92b8c2df28c7f0a0444d786f025d"), looks := true }, kinds := [], alts := [], laidByText := true, laidKinds := [.data, .data, .data, .data, .pinned], laidTests := true, laidLooks := .later }
def DataFormsUptoCardSaid : Prop := Claim7.holds Tryd.pinned (.plain (OpenSpec.upto dataFormsSpec)) dataFormsUptoCard

/-- THE SECOND FORM's CARD OF 'stencillaw6.DataCuts'. -/
def dataCutsUptoCard : Claim7 := { stood := { row := dataCutsUptoRow, standIns := [], harness := (true, "90b88f0345abca729e9ef615fe9c15b698dc92b8c2df28c7f0a0444d786f025d"), looks := true }, kinds := [], alts := [], laidByText := true, laidKinds := [.data, .data, .data, .data, .pinned], laidTests := true, laidLooks := .later }
def DataCutsUptoCardSaid : Prop := Claim7.holds Tryd.pinned (.plain (OpenSpec.upto dataCutsSpec)) dataCutsUptoCard
end Rows
end Go.Proofs.YtopjadjaknmfeabDoor

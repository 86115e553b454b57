/-
  NARROWER THAN 'FOR EVERY INPUT', by the rows' own cells (each row's printed sentence says how): CoreJoins: loops.
  DERIVED. THE GIVEN ROWS OF THIS SEAT. 2 by the template 'for every input the law returns true; each argument reads behind the call as it read before'; 0 by the template 'total and deterministic' (their statements: YtenhljiibfdckaaTotals.lean).
  GIVEN WITH THE SEED: the statements are not yours to turn. If you find one false, say at which input.
  Laid BY PROGRAM, IN A SANDBOX (cutbox-rows.mjs): the forced cells as the released guide's own fill.sh prints them over the translation d7ed61143748f8c6… (all of the seat's roots in one cut). By AI agents, Wed Nov 11 2026. No macro, syntax, notation, axiom, sorry.
-/
import Derived.Test.YtenhljiibfdckaaChecked
import GoSem.Claim
import GoSem.ClaimJoined
import GoSem.ClaimMapViews
import Derived.JoinedTies
import Derived.KernelRfl
namespace Go.Proofs.Ytenhljiibfdckaa
/- THE CELL 'sum', in the pinned program and in every row, IS THE sha256 OF THE DUMP (.gsa) THAT YtenhljiibfdckaaProg.lean LOADS. Nothing in Lean hashes anything: it is a label: what it is worth is what the hold of that sum in a sandbox is worth. -/
noncomputable def Try.pinned : Pinned := { name := "ytenhljiibfdckaa", sum := "d7ed61143748f8c6924114b5da9bb3a601765f460b052ae60e1b9c8bf152cfd9", checked := Try.checked }
namespace Rows
def none {H : Type} : Left H := { results := [], args := [] }

/-- 'stencillaw15.CoreJoins': WHATEVER THE INPUT: true; the input reads as it did. -/
def coreJoinsSpec : ChangeSpec := { name := "coreJoins", fn := fun _ => fun
  | [d1, d2] => { results := [.lit (.bool true)], args := [d1, d2] }
  | _ => none }
def coreJoinsRow : OpenClaim := { program := "ytenhljiibfdckaa", sum := "d7ed61143748f8c6924114b5da9bb3a601765f460b052ae60e1b9c8bf152cfd9", func := "stencil/stencillaw15.CoreJoins", spec := "coreJoins", unfollowed := true, recurses := true, loops := true, apart := false }
def CoreJoinsSaid : Prop := coreJoinsRow.holds Try.pinned (OpenSpec.ofChange coreJoinsSpec)

/-- ITS FALSE NEIGHBOUR: 'it returns false'. Refute it at one input. -/
def coreJoinsWrong : ChangeSpec := { name := "coreJoins", fn := fun _ => fun
  | [d1, d2] => { results := [.lit (.bool false)], args := [d1, d2] }
  | _ => none }
def CoreJoinsWrongFalsely : Prop := coreJoinsRow.holds Try.pinned (OpenSpec.ofChange coreJoinsWrong)

/-- 'stencillaw15.CorePlaces': WHATEVER THE INPUT: true; the input reads as it did. -/
def corePlacesSpec : ChangeSpec := { name := "corePlaces", fn := fun _ => fun
  | [d1, d2] => { results := [.lit (.bool true)], args := [d1, d2] }
  | _ => none }
def corePlacesRow : OpenClaim := { program := "ytenhljiibfdckaa", sum := "d7ed61143748f8c6924114b5da9bb3a601765f460b052ae60e1b9c8bf152cfd9", func := "stencil/stencillaw15.CorePlaces", spec := "corePlaces", unfollowed := true, recurses := true, apart := false }
def CorePlacesSaid : Prop := corePlacesRow.holds Try.pinned (OpenSpec.ofChange corePlacesSpec)

/-- ITS FALSE NEIGHBOUR: 'it returns false'. Refute it at one input. -/
def corePlacesWrong : ChangeSpec := { name := "corePlaces", fn := fun _ => fun
  | [d1, d2] => { results := [.lit (.bool false)], args := [d1, d2] }
  | _ => none }
def CorePlacesWrongFalsely : Prop := corePlacesRow.holds Try.pinned (OpenSpec.ofChange corePlacesWrong)

/- THE SECOND FORM. 'bulk': how many values and letters a reading holds, each counted each time it is reached (what is shared counts as often as it is met; a slice's spare places count too). A statement '..UptoSaid' is the law's where the arguments, and the package variables that the reading takes, are together of bulk at most 1048576: NARROWER than '..Said'. Prove '..Said' where nothing that the law and all that it calls make is longer than what came in: it says more and counts as full. Else prove '..UptoSaid'. A law counts once. -/
mutual
def uptoBulk {H : Type} : DataW H → Nat
  | .lit (.string bytes) => bytes.length + 1
  | .lit _ => 1
  | .nil => 1
  | .ptr d => uptoBulk d + 1
  | .slice elems spare => uptoBulkAll elems + uptoBulkAll spare + 1
  | .agg parts => uptoBulkAll parts + 1
  | .iface _ d => uptoBulk d + 1
  | .map entries => uptoBulkEntries entries + 1
  | .held _ => 1
def uptoBulkAll {H : Type} : List (DataW H) → Nat
  | [] => 0
  | d :: r => uptoBulk d + uptoBulkAll r
def uptoBulkEntries {H : Type} : List (Lit × DataW H) → Nat
  | [] => 0
  | x :: r => uptoBulkEntry x + uptoBulkEntries r
def uptoBulkEntry {H : Type} : Lit × DataW H → Nat
  | (.string bytes, d) => bytes.length + uptoBulk d + 1
  | (_, d) => uptoBulk d + 1
 end
def uptoSmall : (H : Type) → List (DataW H) → Bool := fun _ ds => decide (uptoBulkAll ds ≤ 1048576)
def OpenSpec.upto (s : _root_.Go.ChangeSpec) : _root_.Go.OpenSpec := { _root_.Go.OpenSpec.ofChange s with cond := some uptoSmall }

/-- 'stencillaw15.CoreJoins', WHERE WHAT IT READS IS OF BULK AT MOST 1048576: true; the input reads as it did. -/
def coreJoinsUptoRow : OpenClaim := { program := "ytenhljiibfdckaa", sum := "d7ed61143748f8c6924114b5da9bb3a601765f460b052ae60e1b9c8bf152cfd9", func := "stencil/stencillaw15.CoreJoins", spec := "coreJoins", unfollowed := true, recurses := true, loops := true, apart := false, narrowed := true }
def CoreJoinsUptoSaid : Prop := coreJoinsUptoRow.holds Try.pinned (OpenSpec.upto coreJoinsSpec)

/-- 'stencillaw15.CorePlaces', WHERE WHAT IT READS IS OF BULK AT MOST 1048576: true; the input reads as it did. -/
def corePlacesUptoRow : OpenClaim := { program := "ytenhljiibfdckaa", sum := "d7ed61143748f8c6924114b5da9bb3a601765f460b052ae60e1b9c8bf152cfd9", func := "stencil/stencillaw15.CorePlaces", spec := "corePlaces", unfollowed := true, recurses := true, apart := false, narrowed := true }
def CorePlacesUptoSaid : Prop := corePlacesUptoRow.holds Try.pinned (OpenSpec.upto corePlacesSpec)

end Rows
end Go.Proofs.Ytenhljiibfdckaa

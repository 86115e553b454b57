/-
  NARROWER THAN 'FOR EVERY INPUT', by the rows' own cells (each row's printed sentence says how): ForestChecks: loops · ForestSames: loops · ForestJoins: loops.
  DERIVED. THE GIVEN ROWS OF THIS SEAT. 4 by the template 'for every input the law returns true; each argument reads behind the call as it read before'; 0 by the template 'total and deterministic' (their statements: YtonoalbhpligfaaTotals.lean).
  GIVEN WITH THE SEED: the statements are not yours to turn. If you find one false, say at which input.
  Laid BY PROGRAM, IN A SANDBOX (cutbox-rows.mjs): the forced cells as the released guide's own fill.sh prints them over the translation f3d1145ca5fd040f… (all of the seat's roots in one cut). By AI agents, Wed Nov 11 2026. No macro, syntax, notation, axiom, sorry.
-/
import Derived.Test.YtonoalbhpligfaaChecked
import GoSem.Claim
import GoSem.ClaimJoined
import GoSem.ClaimMapViews
import Derived.JoinedTies
import Derived.KernelRfl
namespace Go.Proofs.Ytonoalbhpligfaa
/- THE CELL 'sum', in the pinned program and in every row, IS THE sha256 OF THE DUMP (.gsa) THAT YtonoalbhpligfaaProg.lean LOADS. Nothing in Lean hashes anything: it is a label: what it is worth is what the hold of that sum in a sandbox is worth. -/
noncomputable def Try.pinned : Pinned := { name := "ytonoalbhpligfaa", sum := "f3d1145ca5fd040f85e60d6e5b1c84df6e745457d05ceae5d18e7759dc6344da", checked := Try.checked }
namespace Rows
def none {H : Type} : Left H := { results := [], args := [] }

/-- 'stencillaw7.ForestChecks': WHATEVER THE INPUT: true; the input reads as it did. -/
def forestChecksSpec : ChangeSpec := { name := "forestChecks", fn := fun _ => fun
  | [d] => { results := [.lit (.bool true)], args := [d] }
  | _ => none }
def forestChecksRow : OpenClaim := { program := "ytonoalbhpligfaa", sum := "f3d1145ca5fd040f85e60d6e5b1c84df6e745457d05ceae5d18e7759dc6344da", func := "stencil/stencillaw7.ForestChecks", spec := "forestChecks", inPlace := ["internal/abi.NoEscape"], unfollowed := true, recurses := true, loops := true, apart := false }
def ForestChecksSaid : Prop := forestChecksRow.holds Try.pinned (OpenSpec.ofChange forestChecksSpec)

/-- ITS FALSE NEIGHBOUR: 'it returns false'. Refute it at one input. -/
def forestChecksWrong : ChangeSpec := { name := "forestChecks", fn := fun _ => fun
  | [d] => { results := [.lit (.bool false)], args := [d] }
  | _ => none }
def ForestChecksWrongFalsely : Prop := forestChecksRow.holds Try.pinned (OpenSpec.ofChange forestChecksWrong)

/-- 'stencillaw7.ForestSames': WHATEVER THE INPUT: true; the input reads as it did. -/
def forestSamesSpec : ChangeSpec := { name := "forestSames", fn := fun _ => fun
  | [d1, d2] => { results := [.lit (.bool true)], args := [d1, d2] }
  | _ => none }
def forestSamesRow : OpenClaim := { program := "ytonoalbhpligfaa", sum := "f3d1145ca5fd040f85e60d6e5b1c84df6e745457d05ceae5d18e7759dc6344da", func := "stencil/stencillaw7.ForestSames", spec := "forestSames", inPlace := ["internal/abi.NoEscape"], unfollowed := true, recurses := true, loops := true, apart := false }
def ForestSamesSaid : Prop := forestSamesRow.holds Try.pinned (OpenSpec.ofChange forestSamesSpec)

/-- ITS FALSE NEIGHBOUR: 'it returns false'. Refute it at one input. -/
def forestSamesWrong : ChangeSpec := { name := "forestSames", fn := fun _ => fun
  | [d1, d2] => { results := [.lit (.bool false)], args := [d1, d2] }
  | _ => none }
def ForestSamesWrongFalsely : Prop := forestSamesRow.holds Try.pinned (OpenSpec.ofChange forestSamesWrong)

/-- 'stencillaw7.ForestJoins': WHATEVER THE INPUT: true; the input reads as it did. -/
def forestJoinsSpec : ChangeSpec := { name := "forestJoins", fn := fun _ => fun
  | [d1, d2] => { results := [.lit (.bool true)], args := [d1, d2] }
  | _ => none }
def forestJoinsRow : OpenClaim := { program := "ytonoalbhpligfaa", sum := "f3d1145ca5fd040f85e60d6e5b1c84df6e745457d05ceae5d18e7759dc6344da", func := "stencil/stencillaw7.ForestJoins", spec := "forestJoins", inPlace := ["internal/abi.NoEscape"], unfollowed := true, recurses := true, loops := true, apart := false }
def ForestJoinsSaid : Prop := forestJoinsRow.holds Try.pinned (OpenSpec.ofChange forestJoinsSpec)

/-- ITS FALSE NEIGHBOUR: 'it returns false'. Refute it at one input. -/
def forestJoinsWrong : ChangeSpec := { name := "forestJoins", fn := fun _ => fun
  | [d1, d2] => { results := [.lit (.bool false)], args := [d1, d2] }
  | _ => none }
def ForestJoinsWrongFalsely : Prop := forestJoinsRow.holds Try.pinned (OpenSpec.ofChange forestJoinsWrong)

/-- 'stencillaw7.ForestTexts': WHATEVER THE INPUT: true; the input reads as it did. -/
def forestTextsSpec : ChangeSpec := { name := "forestTexts", fn := fun _ => fun
  | [d1, d2] => { results := [.lit (.bool true)], args := [d1, d2] }
  | _ => none }
def forestTextsRow : OpenClaim := { program := "ytonoalbhpligfaa", sum := "f3d1145ca5fd040f85e60d6e5b1c84df6e745457d05ceae5d18e7759dc6344da", func := "stencil/stencillaw7.ForestTexts", spec := "forestTexts", inPlace := ["internal/abi.NoEscape"], unfollowed := true, recurses := true, apart := false }
def ForestTextsSaid : Prop := forestTextsRow.holds Try.pinned (OpenSpec.ofChange forestTextsSpec)

/-- ITS FALSE NEIGHBOUR: 'it returns false'. Refute it at one input. -/
def forestTextsWrong : ChangeSpec := { name := "forestTexts", fn := fun _ => fun
  | [d1, d2] => { results := [.lit (.bool false)], args := [d1, d2] }
  | _ => none }
def ForestTextsWrongFalsely : Prop := forestTextsRow.holds Try.pinned (OpenSpec.ofChange forestTextsWrong)

/- THE SECOND FORM. 'bulk': how many values and letters a reading holds, each counted each time it is reached (what is shared counts as often as it is met; a slice's spare places count too). A statement '..UptoSaid' is the law's where the arguments, and the package variables that the reading takes, are together of bulk at most 1048576: NARROWER than '..Said'. Prove '..Said' where nothing that the law and all that it calls make is longer than what came in: it says more and counts as full. Else prove '..UptoSaid'. A law counts once. -/
mutual
def uptoBulk {H : Type} : DataW H → Nat
  | .lit (.string bytes) => bytes.length + 1
  | .lit _ => 1
  | .nil => 1
  | .ptr d => uptoBulk d + 1
  | .slice elems spare => uptoBulkAll elems + uptoBulkAll spare + 1
  | .agg parts => uptoBulkAll parts + 1
  | .iface _ d => uptoBulk d + 1
  | .map entries => uptoBulkEntries entries + 1
  | .held _ => 1
def uptoBulkAll {H : Type} : List (DataW H) → Nat
  | [] => 0
  | d :: r => uptoBulk d + uptoBulkAll r
def uptoBulkEntries {H : Type} : List (Lit × DataW H) → Nat
  | [] => 0
  | x :: r => uptoBulkEntry x + uptoBulkEntries r
def uptoBulkEntry {H : Type} : Lit × DataW H → Nat
  | (.string bytes, d) => bytes.length + uptoBulk d + 1
  | (_, d) => uptoBulk d + 1
 end
def uptoSmall : (H : Type) → List (DataW H) → Bool := fun _ ds => decide (uptoBulkAll ds ≤ 1048576)
def OpenSpec.upto (s : _root_.Go.ChangeSpec) : _root_.Go.OpenSpec := { _root_.Go.OpenSpec.ofChange s with cond := some uptoSmall }

/-- 'stencillaw7.ForestChecks', WHERE WHAT IT READS IS OF BULK AT MOST 1048576: true; the input reads as it did. -/
def forestChecksUptoRow : OpenClaim := { program := "ytonoalbhpligfaa", sum := "f3d1145ca5fd040f85e60d6e5b1c84df6e745457d05ceae5d18e7759dc6344da", func := "stencil/stencillaw7.ForestChecks", spec := "forestChecks", inPlace := ["internal/abi.NoEscape"], unfollowed := true, recurses := true, loops := true, apart := false, narrowed := true }
def ForestChecksUptoSaid : Prop := forestChecksUptoRow.holds Try.pinned (OpenSpec.upto forestChecksSpec)

/-- 'stencillaw7.ForestSames', WHERE WHAT IT READS IS OF BULK AT MOST 1048576: true; the input reads as it did. -/
def forestSamesUptoRow : OpenClaim := { program := "ytonoalbhpligfaa", sum := "f3d1145ca5fd040f85e60d6e5b1c84df6e745457d05ceae5d18e7759dc6344da", func := "stencil/stencillaw7.ForestSames", spec := "forestSames", inPlace := ["internal/abi.NoEscape"], unfollowed := true, recurses := true, loops := true, apart := false, narrowed := true }
def ForestSamesUptoSaid : Prop := forestSamesUptoRow.holds Try.pinned (OpenSpec.upto forestSamesSpec)

/-- 'stencillaw7.ForestJoins', WHERE WHAT IT READS IS OF BULK AT MOST 1048576: true; the input reads as it did. -/
def forestJoinsUptoRow : OpenClaim := { program := "ytonoalbhpligfaa", sum := "f3d1145ca5fd040f85e60d6e5b1c84df6e745457d05ceae5d18e7759dc6344da", func := "stencil/stencillaw7.ForestJoins", spec := "forestJoins", inPlace := ["internal/abi.NoEscape"], unfollowed := true, recurses := true, loops := true, apart := false, narrowed := true }
def ForestJoinsUptoSaid : Prop := forestJoinsUptoRow.holds Try.pinned (OpenSpec.upto forestJoinsSpec)

/-- 'stencillaw7.ForestTexts', WHERE WHAT IT READS IS OF BULK AT MOST 1048576: true; the input reads as it did. -/
def forestTextsUptoRow : OpenClaim := { program := "ytonoalbhpligfaa", sum := "f3d1145ca5fd040f85e60d6e5b1c84df6e745457d05ceae5d18e7759dc6344da", func := "stencil/stencillaw7.ForestTexts", spec := "forestTexts", inPlace := ["internal/abi.NoEscape"], unfollowed := true, recurses := true, apart := false, narrowed := true }
def ForestTextsUptoSaid : Prop := forestTextsUptoRow.holds Try.pinned (OpenSpec.upto forestTextsSpec)

end Rows
end Go.Proofs.Ytonoalbhpligfaa

/-
  NARROWER THAN 'FOR EVERY INPUT', by the rows' own cells (each row's printed sentence says how): ProgramBack: loops · VerifyTrees: loops · VerifyMore: loops · VerifyCuts: loops.
  DERIVED. THE GIVEN ROWS OF THIS SEAT. 4 by the template 'for every input the law returns true; each argument reads behind the call as it read before'; 0 by the template 'total and deterministic' (their statements: YtgknjjaemjkloaaTotals.lean).
  GIVEN WITH THE SEED: the statements are not yours to turn. If you find one false, say at which input.
  Laid BY PROGRAM, IN A SANDBOX (cutbox-rows.mjs): the forced cells as the released guide's own fill.sh prints them over the translation 92df207d3a879282… (all of the seat's roots in one cut). By AI agents, Wed Nov 11 2026. No macro, syntax, notation, axiom, sorry.
-/
import Derived.Test.YtgknjjaemjkloaaChecked
import GoSem.Claim
import GoSem.ClaimJoined
import GoSem.ClaimMapViews
import Derived.JoinedTies
import Derived.KernelRfl
namespace Go.Proofs.Ytgknjjaemjkloaa
/- THE CELL 'sum', in the pinned program and in every row, IS THE sha256 OF THE DUMP (.gsa) THAT YtgknjjaemjkloaaProg.lean LOADS. Nothing in Lean hashes anything: it is a label: what it is worth is what the hold of that sum in a sandbox is worth. -/
noncomputable def Try.pinned : Pinned := { name := "ytgknjjaemjkloaa", sum := "92df207d3a87928274a21e939f3306f60a81de70028a8cb25fd225cf271c883d", checked := Try.checked }
namespace Rows
def none {H : Type} : Left H := { results := [], args := [] }

/-- 'stencillaw21.ProgramBack': WHATEVER THE INPUT: true; the input reads as it did. -/
def programBackSpec : ChangeSpec := { name := "programBack", fn := fun _ => fun
  | [d] => { results := [.lit (.bool true)], args := [d] }
  | _ => none }
def programBackRow : OpenClaim := { program := "ytgknjjaemjkloaa", sum := "92df207d3a87928274a21e939f3306f60a81de70028a8cb25fd225cf271c883d", func := "stencil/stencillaw21.ProgramBack", spec := "programBack", unfollowed := true, recurses := true, loops := true, apart := false }
def ProgramBackSaid : Prop := programBackRow.holds Try.pinned (OpenSpec.ofChange programBackSpec)

/-- ITS FALSE NEIGHBOUR: 'it returns false'. Refute it at one input. -/
def programBackWrong : ChangeSpec := { name := "programBack", fn := fun _ => fun
  | [d] => { results := [.lit (.bool false)], args := [d] }
  | _ => none }
def ProgramBackWrongFalsely : Prop := programBackRow.holds Try.pinned (OpenSpec.ofChange programBackWrong)

/-- 'stencillaw22.VerifyTrees': WHATEVER THE INPUT: true; the input reads as it did. -/
def verifyTreesSpec : ChangeSpec := { name := "verifyTrees", fn := fun _ => fun
  | [d] => { results := [.lit (.bool true)], args := [d] }
  | _ => none }
def verifyTreesRow : OpenClaim := { program := "ytgknjjaemjkloaa", sum := "92df207d3a87928274a21e939f3306f60a81de70028a8cb25fd225cf271c883d", func := "stencil/stencillaw22.VerifyTrees", spec := "verifyTrees", unfollowed := true, recurses := true, loops := true, apart := false }
def VerifyTreesSaid : Prop := verifyTreesRow.holds Try.pinned (OpenSpec.ofChange verifyTreesSpec)

/-- ITS FALSE NEIGHBOUR: 'it returns false'. Refute it at one input. -/
def verifyTreesWrong : ChangeSpec := { name := "verifyTrees", fn := fun _ => fun
  | [d] => { results := [.lit (.bool false)], args := [d] }
  | _ => none }
def VerifyTreesWrongFalsely : Prop := verifyTreesRow.holds Try.pinned (OpenSpec.ofChange verifyTreesWrong)

/-- 'stencillaw22.VerifyMore': WHATEVER THE INPUT: true; the input reads as it did. -/
def verifyMoreSpec : ChangeSpec := { name := "verifyMore", fn := fun _ => fun
  | [d] => { results := [.lit (.bool true)], args := [d] }
  | _ => none }
def verifyMoreRow : OpenClaim := { program := "ytgknjjaemjkloaa", sum := "92df207d3a87928274a21e939f3306f60a81de70028a8cb25fd225cf271c883d", func := "stencil/stencillaw22.VerifyMore", spec := "verifyMore", unfollowed := true, recurses := true, loops := true, apart := false }
def VerifyMoreSaid : Prop := verifyMoreRow.holds Try.pinned (OpenSpec.ofChange verifyMoreSpec)

/-- ITS FALSE NEIGHBOUR: 'it returns false'. Refute it at one input. -/
def verifyMoreWrong : ChangeSpec := { name := "verifyMore", fn := fun _ => fun
  | [d] => { results := [.lit (.bool false)], args := [d] }
  | _ => none }
def VerifyMoreWrongFalsely : Prop := verifyMoreRow.holds Try.pinned (OpenSpec.ofChange verifyMoreWrong)

/-- 'stencillaw22.VerifyCuts': WHATEVER THE INPUT: true; the input reads as it did. -/
def verifyCutsSpec : ChangeSpec := { name := "verifyCuts", fn := fun _ => fun
  | [d1, d2] => { results := [.lit (.bool true)], args := [d1, d2] }
  | _ => none }
def verifyCutsRow : OpenClaim := { program := "ytgknjjaemjkloaa", sum := "92df207d3a87928274a21e939f3306f60a81de70028a8cb25fd225cf271c883d", func := "stencil/stencillaw22.VerifyCuts", spec := "verifyCuts", unfollowed := true, recurses := true, loops := true, apart := false }
def VerifyCutsSaid : Prop := verifyCutsRow.holds Try.pinned (OpenSpec.ofChange verifyCutsSpec)

/-- ITS FALSE NEIGHBOUR: 'it returns false'. Refute it at one input. -/
def verifyCutsWrong : ChangeSpec := { name := "verifyCuts", fn := fun _ => fun
  | [d1, d2] => { results := [.lit (.bool false)], args := [d1, d2] }
  | _ => none }
def VerifyCutsWrongFalsely : Prop := verifyCutsRow.holds Try.pinned (OpenSpec.ofChange verifyCutsWrong)

/- THE SECOND FORM. 'bulk': how many values and letters a reading holds, each counted each time it is reached (what is shared counts as often as it is met; a slice's spare places count too). A statement '..UptoSaid' is the law's where the arguments, and the package variables that the reading takes, are together of bulk at most 1048576: NARROWER than '..Said'. Prove '..Said' where nothing that the law and all that it calls make is longer than what came in: it says more and counts as full. Else prove '..UptoSaid'. A law counts once. -/
mutual
def uptoBulk {H : Type} : DataW H → Nat
  | .lit (.string bytes) => bytes.length + 1
  | .lit _ => 1
  | .nil => 1
  | .ptr d => uptoBulk d + 1
  | .slice elems spare => uptoBulkAll elems + uptoBulkAll spare + 1
  | .agg parts => uptoBulkAll parts + 1
  | .iface _ d => uptoBulk d + 1
  | .map entries => uptoBulkEntries entries + 1
  | .held _ => 1
def uptoBulkAll {H : Type} : List (DataW H) → Nat
  | [] => 0
  | d :: r => uptoBulk d + uptoBulkAll r
def uptoBulkEntries {H : Type} : List (Lit × DataW H) → Nat
  | [] => 0
  | x :: r => uptoBulkEntry x + uptoBulkEntries r
def uptoBulkEntry {H : Type} : Lit × DataW H → Nat
  | (.string bytes, d) => bytes.length + uptoBulk d + 1
  | (_, d) => uptoBulk d + 1
 end
def uptoSmall : (H : Type) → List (DataW H) → Bool := fun _ ds => decide (uptoBulkAll ds ≤ 1048576)
def OpenSpec.upto (s : _root_.Go.ChangeSpec) : _root_.Go.OpenSpec := { _root_.Go.OpenSpec.ofChange s with cond := some uptoSmall }

/-- 'stencillaw21.ProgramBack', WHERE WHAT IT READS IS OF BULK AT MOST 1048576: true; the input reads as it did. -/
def programBackUptoRow : OpenClaim := { program := "ytgknjjaemjkloaa", sum := "92df207d3a87928274a21e939f3306f60a81de70028a8cb25fd225cf271c883d", func := "stencil/stencillaw21.ProgramBack", spec := "programBack", unfollowed := true, recurses := true, loops := true, apart := false, narrowed := true }
def ProgramBackUptoSaid : Prop := programBackUptoRow.holds Try.pinned (OpenSpec.upto programBackSpec)

/-- 'stencillaw22.VerifyTrees', WHERE WHAT IT READS IS OF BULK AT MOST 1048576: true; the input reads as it did. -/
def verifyTreesUptoRow : OpenClaim := { program := "ytgknjjaemjkloaa", sum := "92df207d3a87928274a21e939f3306f60a81de70028a8cb25fd225cf271c883d", func := "stencil/stencillaw22.VerifyTrees", spec := "verifyTrees", unfollowed := true, recurses := true, loops := true, apart := false, narrowed := true }
def VerifyTreesUptoSaid : Prop := verifyTreesUptoRow.holds Try.pinned (OpenSpec.upto verifyTreesSpec)

/-- 'stencillaw22.VerifyMore', WHERE WHAT IT READS IS OF BULK AT MOST 1048576: true; the input reads as it did. -/
def verifyMoreUptoRow : OpenClaim := { program := "ytgknjjaemjkloaa", sum := "92df207d3a87928274a21e939f3306f60a81de70028a8cb25fd225cf271c883d", func := "stencil/stencillaw22.VerifyMore", spec := "verifyMore", unfollowed := true, recurses := true, loops := true, apart := false, narrowed := true }
def VerifyMoreUptoSaid : Prop := verifyMoreUptoRow.holds Try.pinned (OpenSpec.upto verifyMoreSpec)

/-- 'stencillaw22.VerifyCuts', WHERE WHAT IT READS IS OF BULK AT MOST 1048576: true; the input reads as it did. -/
def verifyCutsUptoRow : OpenClaim := { program := "ytgknjjaemjkloaa", sum := "92df207d3a87928274a21e939f3306f60a81de70028a8cb25fd225cf271c883d", func := "stencil/stencillaw22.VerifyCuts", spec := "verifyCuts", unfollowed := true, recurses := true, loops := true, apart := false, narrowed := true }
def VerifyCutsUptoSaid : Prop := verifyCutsUptoRow.holds Try.pinned (OpenSpec.upto verifyCutsSpec)

end Rows
end Go.Proofs.Ytgknjjaemjkloaa

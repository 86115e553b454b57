/-
  NARROWER THAN 'FOR EVERY INPUT', by the rows' own cells (each row's printed sentence says how): ProgramBack: loops.
  DERIVED. THE GIVEN ROWS OF THIS SEAT. 2 by the template 'for every input the law returns true; each argument reads behind the call as it read before'; 0 by the template 'total and deterministic' (their statements: YtmodaihngcnlfaaTotals.lean).
  GIVEN WITH THE SEED: the statements are not yours to turn. If you find one false, say at which input.
  Laid BY PROGRAM, IN A SANDBOX (cutbox-rows.mjs): the forced cells as the released guide's own fill.sh prints them over the translation 18fe9b51c297b3b0… (all of the seat's roots in one cut). By AI agents, Wed Nov 11 2026. No macro, syntax, notation, axiom, sorry.
-/
import Derived.Test.YtmodaihngcnlfaaChecked
import GoSem.Claim
import GoSem.ClaimJoined
import GoSem.ClaimMapViews
import Derived.JoinedTies
import Derived.KernelRfl
namespace Go.Proofs.Ytmodaihngcnlfaa
/- THE CELL 'sum', in the pinned program and in every row, IS THE sha256 OF THE DUMP (.gsa) THAT YtmodaihngcnlfaaProg.lean LOADS. Nothing in Lean hashes anything: it is a label: what it is worth is what the hold of that sum in a sandbox is worth. -/
noncomputable def Try.pinned : Pinned := { name := "ytmodaihngcnlfaa", sum := "18fe9b51c297b3b0f97fb929dde1f6766562d540832ebc4e261a34b6d0fa2884", checked := Try.checked }
namespace Rows
def none {H : Type} : Left H := { results := [], args := [] }

/-- 'stencillaw21.ProgramBack': WHATEVER THE INPUT: true; the input reads as it did. -/
def programBackSpec : ChangeSpec := { name := "programBack", fn := fun _ => fun
  | [d] => { results := [.lit (.bool true)], args := [d] }
  | _ => none }
def programBackRow : OpenClaim := { program := "ytmodaihngcnlfaa", sum := "18fe9b51c297b3b0f97fb929dde1f6766562d540832ebc4e261a34b6d0fa2884", func := "stencil/stencillaw21.ProgramBack", spec := "programBack", unfollowed := true, recurses := true, loops := true, apart := false }
def ProgramBackSaid : Prop := programBackRow.holds Try.pinned (OpenSpec.ofChange programBackSpec)

/-- ITS FALSE NEIGHBOUR: 'it returns false'. Refute it at one input. -/
def programBackWrong : ChangeSpec := { name := "programBack", fn := fun _ => fun
  | [d] => { results := [.lit (.bool false)], args := [d] }
  | _ => none }
def ProgramBackWrongFalsely : Prop := programBackRow.holds Try.pinned (OpenSpec.ofChange programBackWrong)

/-- 'stencillaw21.ProgramForms': WHATEVER THE INPUT: true; the input reads as it did. -/
def programFormsSpec : ChangeSpec := { name := "programForms", fn := fun _ => fun
  | [d1, d2, d3] => { results := [.lit (.bool true)], args := [d1, d2, d3] }
  | _ => none }
def programFormsRow : OpenClaim := { program := "ytmodaihngcnlfaa", sum := "18fe9b51c297b3b0f97fb929dde1f6766562d540832ebc4e261a34b6d0fa2884", func := "stencil/stencillaw21.ProgramForms", spec := "programForms", unfollowed := true, recurses := true, apart := false }
def ProgramFormsSaid : Prop := programFormsRow.holds Try.pinned (OpenSpec.ofChange programFormsSpec)

/-- ITS FALSE NEIGHBOUR: 'it returns false'. Refute it at one input. -/
def programFormsWrong : ChangeSpec := { name := "programForms", fn := fun _ => fun
  | [d1, d2, d3] => { results := [.lit (.bool false)], args := [d1, d2, d3] }
  | _ => none }
def ProgramFormsWrongFalsely : Prop := programFormsRow.holds Try.pinned (OpenSpec.ofChange programFormsWrong)

/- THE SECOND FORM. 'bulk': how many values and letters a reading holds, each counted each time it is reached (what is shared counts as often as it is met; a slice's spare places count too). A statement '..UptoSaid' is the law's where the arguments, and the package variables that the reading takes, are together of bulk at most 1048576: NARROWER than '..Said'. Prove '..Said' where nothing that the law and all that it calls make is longer than what came in: it says more and counts as full. Else prove '..UptoSaid'. A law counts once. -/
mutual
def uptoBulk {H : Type} : DataW H → Nat
  | .lit (.string bytes) => bytes.length + 1
  | .lit _ => 1
  | .nil => 1
  | .ptr d => uptoBulk d + 1
  | .slice elems spare => uptoBulkAll elems + uptoBulkAll spare + 1
  | .agg parts => uptoBulkAll parts + 1
  | .iface _ d => uptoBulk d + 1
  | .map entries => uptoBulkEntries entries + 1
  | .held _ => 1
def uptoBulkAll {H : Type} : List (DataW H) → Nat
  | [] => 0
  | d :: r => uptoBulk d + uptoBulkAll r
def uptoBulkEntries {H : Type} : List (Lit × DataW H) → Nat
  | [] => 0
  | x :: r => uptoBulkEntry x + uptoBulkEntries r
def uptoBulkEntry {H : Type} : Lit × DataW H → Nat
  | (.string bytes, d) => bytes.length + uptoBulk d + 1
  | (_, d) => uptoBulk d + 1
 end
def uptoSmall : (H : Type) → List (DataW H) → Bool := fun _ ds => decide (uptoBulkAll ds ≤ 1048576)
def OpenSpec.upto (s : _root_.Go.ChangeSpec) : _root_.Go.OpenSpec := { _root_.Go.OpenSpec.ofChange s with cond := some uptoSmall }

/-- 'stencillaw21.ProgramBack', WHERE WHAT IT READS IS OF BULK AT MOST 1048576: true; the input reads as it did. -/
def programBackUptoRow : OpenClaim := { program := "ytmodaihngcnlfaa", sum := "18fe9b51c297b3b0f97fb929dde1f6766562d540832ebc4e261a34b6d0fa2884", func := "stencil/stencillaw21.ProgramBack", spec := "programBack", unfollowed := true, recurses := true, loops := true, apart := false, narrowed := true }
def ProgramBackUptoSaid : Prop := programBackUptoRow.holds Try.pinned (OpenSpec.upto programBackSpec)

/-- 'stencillaw21.ProgramForms', WHERE WHAT IT READS IS OF BULK AT MOST 1048576: true; the input reads as it did. -/
def programFormsUptoRow : OpenClaim := { program := "ytmodaihngcnlfaa", sum := "18fe9b51c297b3b0f97fb929dde1f6766562d540832ebc4e261a34b6d0fa2884", func := "stencil/stencillaw21.ProgramForms", spec := "programForms", unfollowed := true, recurses := true, apart := false, narrowed := true }
def ProgramFormsUptoSaid : Prop := programFormsUptoRow.holds Try.pinned (OpenSpec.upto programFormsSpec)

end Rows
end Go.Proofs.Ytmodaihngcnlfaa

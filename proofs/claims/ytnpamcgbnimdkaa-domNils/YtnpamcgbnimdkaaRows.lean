/-
  NARROWER THAN 'FOR EVERY INPUT', by the rows' own cells (each row's printed sentence says how): DomLinks: loops · DomRefused: loops · DomBuilds: loops · DomNils: loops · DomOwns: loops.
  DERIVED. THE GIVEN ROWS OF THIS SEAT. 5 by the template 'for every input the law returns true; each argument reads behind the call as it read before'; 0 by the template 'total and deterministic' (their statements: YtnpamcgbnimdkaaTotals.lean).
  GIVEN WITH THE SEED: the statements are not yours to turn. If you find one false, say at which input.
  Laid BY PROGRAM, IN A SANDBOX (cutbox-rows.mjs): the forced cells as the released guide's own fill.sh prints them over the translation b64d92f7115bb0ad… (all of the seat's roots in one cut). By AI agents, Wed Nov 11 2026. No macro, syntax, notation, axiom, sorry.
-/
import Derived.Test.YtnpamcgbnimdkaaChecked
import GoSem.Claim
import GoSem.ClaimJoined
import GoSem.ClaimMapViews
import Derived.JoinedTies
import Derived.KernelRfl
namespace Go.Proofs.Ytnpamcgbnimdkaa
/- THE CELL 'sum', in the pinned program and in every row, IS THE sha256 OF THE DUMP (.gsa) THAT YtnpamcgbnimdkaaProg.lean LOADS. Nothing in Lean hashes anything: it is a label: what it is worth is what the hold of that sum in a sandbox is worth. -/
noncomputable def Try.pinned : Pinned := { name := "ytnpamcgbnimdkaa", sum := "b64d92f7115bb0ad55210de1268e6367e178ccd8cb4335167c7f4046e6245d86", checked := Try.checked }
namespace Rows
def none {H : Type} : Left H := { results := [], args := [] }

/-- 'stencillaw8.DomLinks': WHATEVER THE INPUT: true; the input reads as it did. -/
def domLinksSpec : ChangeSpec := { name := "domLinks", fn := fun _ => fun
  | [d1, d2] => { results := [.lit (.bool true)], args := [d1, d2] }
  | _ => none }
def domLinksRow : OpenClaim := { program := "ytnpamcgbnimdkaa", sum := "b64d92f7115bb0ad55210de1268e6367e178ccd8cb4335167c7f4046e6245d86", func := "stencil/stencillaw8.DomLinks", spec := "domLinks", inPlace := ["slices.overlaps[stencil/api.Attr]"], unfollowed := true, recurses := true, loops := true, apart := false }
def DomLinksSaid : Prop := domLinksRow.holds Try.pinned (OpenSpec.ofChange domLinksSpec)

/-- ITS FALSE NEIGHBOUR: 'it returns false'. Refute it at one input. -/
def domLinksWrong : ChangeSpec := { name := "domLinks", fn := fun _ => fun
  | [d1, d2] => { results := [.lit (.bool false)], args := [d1, d2] }
  | _ => none }
def DomLinksWrongFalsely : Prop := domLinksRow.holds Try.pinned (OpenSpec.ofChange domLinksWrong)

/-- 'stencillaw8.DomRefused': WHATEVER THE INPUT: true; the input reads as it did. -/
def domRefusedSpec : ChangeSpec := { name := "domRefused", fn := fun _ => fun
  | [d1, d2, d3] => { results := [.lit (.bool true)], args := [d1, d2, d3] }
  | _ => none }
def domRefusedRow : OpenClaim := { program := "ytnpamcgbnimdkaa", sum := "b64d92f7115bb0ad55210de1268e6367e178ccd8cb4335167c7f4046e6245d86", func := "stencil/stencillaw8.DomRefused", spec := "domRefused", inPlace := ["slices.overlaps[stencil/api.Attr]"], unfollowed := true, recurses := true, loops := true, apart := false }
def DomRefusedSaid : Prop := domRefusedRow.holds Try.pinned (OpenSpec.ofChange domRefusedSpec)

/-- ITS FALSE NEIGHBOUR: 'it returns false'. Refute it at one input. -/
def domRefusedWrong : ChangeSpec := { name := "domRefused", fn := fun _ => fun
  | [d1, d2, d3] => { results := [.lit (.bool false)], args := [d1, d2, d3] }
  | _ => none }
def DomRefusedWrongFalsely : Prop := domRefusedRow.holds Try.pinned (OpenSpec.ofChange domRefusedWrong)

/-- 'stencillaw8.DomBuilds': WHATEVER THE INPUT: true; the input reads as it did. -/
def domBuildsSpec : ChangeSpec := { name := "domBuilds", fn := fun _ => fun
  | [d1, d2] => { results := [.lit (.bool true)], args := [d1, d2] }
  | _ => none }
def domBuildsRow : OpenClaim := { program := "ytnpamcgbnimdkaa", sum := "b64d92f7115bb0ad55210de1268e6367e178ccd8cb4335167c7f4046e6245d86", func := "stencil/stencillaw8.DomBuilds", spec := "domBuilds", unfollowed := true, recurses := true, loops := true, apart := false }
def DomBuildsSaid : Prop := domBuildsRow.holds Try.pinned (OpenSpec.ofChange domBuildsSpec)

/-- ITS FALSE NEIGHBOUR: 'it returns false'. Refute it at one input. -/
def domBuildsWrong : ChangeSpec := { name := "domBuilds", fn := fun _ => fun
  | [d1, d2] => { results := [.lit (.bool false)], args := [d1, d2] }
  | _ => none }
def DomBuildsWrongFalsely : Prop := domBuildsRow.holds Try.pinned (OpenSpec.ofChange domBuildsWrong)

/-- 'stencillaw8.DomNils': WHATEVER THE INPUT: true; the input reads as it did. -/
def domNilsSpec : ChangeSpec := { name := "domNils", fn := fun _ => fun
  | [d] => { results := [.lit (.bool true)], args := [d] }
  | _ => none }
def domNilsRow : OpenClaim := { program := "ytnpamcgbnimdkaa", sum := "b64d92f7115bb0ad55210de1268e6367e178ccd8cb4335167c7f4046e6245d86", func := "stencil/stencillaw8.DomNils", spec := "domNils", inPlace := ["slices.overlaps[stencil/api.Attr]"], unfollowed := true, recurses := true, loops := true, apart := false }
def DomNilsSaid : Prop := domNilsRow.holds Try.pinned (OpenSpec.ofChange domNilsSpec)

/-- ITS FALSE NEIGHBOUR: 'it returns false'. Refute it at one input. -/
def domNilsWrong : ChangeSpec := { name := "domNils", fn := fun _ => fun
  | [d] => { results := [.lit (.bool false)], args := [d] }
  | _ => none }
def DomNilsWrongFalsely : Prop := domNilsRow.holds Try.pinned (OpenSpec.ofChange domNilsWrong)

/-- 'stencillaw8.DomOwns': WHATEVER THE INPUT: true; the input reads as it did. -/
def domOwnsSpec : ChangeSpec := { name := "domOwns", fn := fun _ => fun
  | [d1, d2] => { results := [.lit (.bool true)], args := [d1, d2] }
  | _ => none }
def domOwnsRow : OpenClaim := { program := "ytnpamcgbnimdkaa", sum := "b64d92f7115bb0ad55210de1268e6367e178ccd8cb4335167c7f4046e6245d86", func := "stencil/stencillaw8.DomOwns", spec := "domOwns", inPlace := ["slices.overlaps[stencil/api.Attr]"], unfollowed := true, recurses := true, loops := true, apart := false }
def DomOwnsSaid : Prop := domOwnsRow.holds Try.pinned (OpenSpec.ofChange domOwnsSpec)

/-- ITS FALSE NEIGHBOUR: 'it returns false'. Refute it at one input. -/
def domOwnsWrong : ChangeSpec := { name := "domOwns", fn := fun _ => fun
  | [d1, d2] => { results := [.lit (.bool false)], args := [d1, d2] }
  | _ => none }
def DomOwnsWrongFalsely : Prop := domOwnsRow.holds Try.pinned (OpenSpec.ofChange domOwnsWrong)

/- THE SECOND FORM. 'bulk': how many values and letters a reading holds, each counted each time it is reached (what is shared counts as often as it is met; a slice's spare places count too). A statement '..UptoSaid' is the law's where the arguments, and the package variables that the reading takes, are together of bulk at most 1048576: NARROWER than '..Said'. Prove '..Said' where nothing that the law and all that it calls make is longer than what came in: it says more and counts as full. Else prove '..UptoSaid'. A law counts once. -/
mutual
def uptoBulk {H : Type} : DataW H → Nat
  | .lit (.string bytes) => bytes.length + 1
  | .lit _ => 1
  | .nil => 1
  | .ptr d => uptoBulk d + 1
  | .slice elems spare => uptoBulkAll elems + uptoBulkAll spare + 1
  | .agg parts => uptoBulkAll parts + 1
  | .iface _ d => uptoBulk d + 1
  | .map entries => uptoBulkEntries entries + 1
  | .held _ => 1
def uptoBulkAll {H : Type} : List (DataW H) → Nat
  | [] => 0
  | d :: r => uptoBulk d + uptoBulkAll r
def uptoBulkEntries {H : Type} : List (Lit × DataW H) → Nat
  | [] => 0
  | x :: r => uptoBulkEntry x + uptoBulkEntries r
def uptoBulkEntry {H : Type} : Lit × DataW H → Nat
  | (.string bytes, d) => bytes.length + uptoBulk d + 1
  | (_, d) => uptoBulk d + 1
 end
def uptoSmall : (H : Type) → List (DataW H) → Bool := fun _ ds => decide (uptoBulkAll ds ≤ 1048576)
def OpenSpec.upto (s : _root_.Go.ChangeSpec) : _root_.Go.OpenSpec := { _root_.Go.OpenSpec.ofChange s with cond := some uptoSmall }

/-- 'stencillaw8.DomLinks', WHERE WHAT IT READS IS OF BULK AT MOST 1048576: true; the input reads as it did. -/
def domLinksUptoRow : OpenClaim := { program := "ytnpamcgbnimdkaa", sum := "b64d92f7115bb0ad55210de1268e6367e178ccd8cb4335167c7f4046e6245d86", func := "stencil/stencillaw8.DomLinks", spec := "domLinks", inPlace := ["slices.overlaps[stencil/api.Attr]"], unfollowed := true, recurses := true, loops := true, apart := false, narrowed := true }
def DomLinksUptoSaid : Prop := domLinksUptoRow.holds Try.pinned (OpenSpec.upto domLinksSpec)

/-- 'stencillaw8.DomRefused', WHERE WHAT IT READS IS OF BULK AT MOST 1048576: true; the input reads as it did. -/
def domRefusedUptoRow : OpenClaim := { program := "ytnpamcgbnimdkaa", sum := "b64d92f7115bb0ad55210de1268e6367e178ccd8cb4335167c7f4046e6245d86", func := "stencil/stencillaw8.DomRefused", spec := "domRefused", inPlace := ["slices.overlaps[stencil/api.Attr]"], unfollowed := true, recurses := true, loops := true, apart := false, narrowed := true }
def DomRefusedUptoSaid : Prop := domRefusedUptoRow.holds Try.pinned (OpenSpec.upto domRefusedSpec)

/-- 'stencillaw8.DomBuilds', WHERE WHAT IT READS IS OF BULK AT MOST 1048576: true; the input reads as it did. -/
def domBuildsUptoRow : OpenClaim := { program := "ytnpamcgbnimdkaa", sum := "b64d92f7115bb0ad55210de1268e6367e178ccd8cb4335167c7f4046e6245d86", func := "stencil/stencillaw8.DomBuilds", spec := "domBuilds", unfollowed := true, recurses := true, loops := true, apart := false, narrowed := true }
def DomBuildsUptoSaid : Prop := domBuildsUptoRow.holds Try.pinned (OpenSpec.upto domBuildsSpec)

/-- 'stencillaw8.DomNils', WHERE WHAT IT READS IS OF BULK AT MOST 1048576: true; the input reads as it did. -/
def domNilsUptoRow : OpenClaim := { program := "ytnpamcgbnimdkaa", sum := "b64d92f7115bb0ad55210de1268e6367e178ccd8cb4335167c7f4046e6245d86", func := "stencil/stencillaw8.DomNils", spec := "domNils", inPlace := ["slices.overlaps[stencil/api.Attr]"], unfollowed := true, recurses := true, loops := true, apart := false, narrowed := true }
def DomNilsUptoSaid : Prop := domNilsUptoRow.holds Try.pinned (OpenSpec.upto domNilsSpec)

/-- 'stencillaw8.DomOwns', WHERE WHAT IT READS IS OF BULK AT MOST 1048576: true; the input reads as it did. -/
def domOwnsUptoRow : OpenClaim := { program := "ytnpamcgbnimdkaa", sum := "b64d92f7115bb0ad55210de1268e6367e178ccd8cb4335167c7f4046e6245d86", func := "stencil/stencillaw8.DomOwns", spec := "domOwns", inPlace := ["slices.overlaps[stencil/api.Attr]"], unfollowed := true, recurses := true, loops := true, apart := false, narrowed := true }
def DomOwnsUptoSaid : Prop := domOwnsUptoRow.holds Try.pinned (OpenSpec.upto domOwnsSpec)

end Rows
end Go.Proofs.Ytnpamcgbnimdkaa

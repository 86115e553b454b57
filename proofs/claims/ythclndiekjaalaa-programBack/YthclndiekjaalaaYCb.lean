/- Cells that are set, and what is answered out of a cell. -/
import Derived.Test.YthclndiekjaalaaTRow
namespace Go.Proofs.Ythclndiekjaalaa.YCb
open Go.RowKit
set_option linter.unusedVariables false

theorem block_set {w : World} {B j : Nat} {cs : Array Value} {t : TypeId} {fz : Nat × Nat} (h : w.heap[B]? = some (.cells cs t fz)) (u : Value) : (w.setCell ⟨B, j, none⟩ u).heap[B]? = some (.cells (cs.setIfInBounds j u) t fz) := by
  simp [World.setCell, Array.getElem?_modify, h]
end Go.Proofs.Ythclndiekjaalaa.YCb

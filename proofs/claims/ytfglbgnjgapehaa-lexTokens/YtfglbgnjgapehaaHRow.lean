/- Rows of bytes of one's own; the document's Text and Attr. -/
import Derived.Test.YtfglbgnjgapehaaHSmall
import Derived.LoopTactic
import Derived.Lib.AppendStr
import Derived.Lib.UnsafeStr
import Derived.Laws.BytesArg
namespace Go.Proofs.Ytfglbgnjgapehaa.HRow
open Go.ChangeShapes Go.WideShapes Go.ChangeAt Go.RowKit Go.Proofs.Ytfglbgnjgapehaa.HBase Go.Proofs.Ytfglbgnjgapehaa.HSmall
set_option linter.unusedVariables false

theorem info5 : (Try.prog.info? 5).map (fun i => (i.zero, i.size, i.bytes)) = some (some (.int .u8 0), 1, 1) := by kernel_rfl
/-- v is a row of one's own (a block from B on) that holds the bytes L. -/
def Own (w : World) (B : Nat) (v : Value) (L : List UInt8) : Prop := w.ownsRow B 5 1 v L.length (Lib.byteCells L)
theorem cell_new (w : World) (v : Value) (t : TypeId) : (w.alloc (.cells #[v] t)).cell? ⟨w.heap.size, 0, none⟩ = some v := by
  have h := heap_alloc_new w (.cells #[v] t)
  exact cell_of_one h
theorem cell_one_byte (wr : World) (c : Nat) (j : Nat) (u : Value) (hj : [Value.int .u8 (c : Int)][j]? = some u) :
    (wr.alloc (.cells #[.int .u8 (c : Int)] 5)).cell? ((⟨wr.heap.size, 0, none⟩ : Addr).add j) = some u := by
  cases j with
  | zero => simp at hj; subst hj; exact cell_new _ _ _
  | succ j => simp at hj
theorem own_more {w' : World} {B : Nat} {v : Value} {L : List UInt8} {c : UInt8} (h : w'.ownsRow B 5 1 v (L.length + 1) (Lib.byteCells L ++ [.int .u8 (c.toNat : Int)])) : Own w' B v (L ++ [c]) := by
  unfold Own
  rw [Lib.byteCells_append, List.length_append]
  exact h
theorem own_text {w' : World} {B : Nat} {v : Value} {L : List UInt8} {x : ByteArray} (h : w'.ownsRow B 5 1 v (L.length + x.size) (Lib.byteCells L ++ Lib.strCells x)) : Own w' B v (L ++ x.data.toList) := by
  unfold Own
  rw [Lib.byteCells_append, List.length_append]
  exact h
/-- Such a row as a text. -/
theorem own_conv {w : World} {B : Nat} {v : Value} {L : List UInt8} (h : Own w B v L) : (convert 63 9 v).run Try.prog w = .ok (.string ⟨L.toArray⟩) w := by
  rcases h.2 with ⟨rfl, h0⟩ | ⟨g, cap, cur, rfl, hb, hh, hn, hm, _⟩
  · have hL : L = [] := List.eq_nil_of_length_eq_zero h0
    subst hL
    exact run_convert_bytes_nil w 63 5 Try.underlying63 Try.underlying5 0 0 9 Try.underlying9
  · refine run_convert_bytes_back (P := Try.prog) w 63 9 5 ⟨g, 0, none⟩ cap L Try.underlying63 Try.underlying5 Try.underlying9 fun j hj => ?_
    exact World.ownsRow.cells (g := g) h rfl j (.int .u8 (L[j].toNat : Int)) (by simp [Lib.byteCells, hj])
theorem rent_one {c : UInt8} {q : Bool} (h : rentB c.toNat q = ⟨#[]⟩) : one q c = [c] := by
  unfold rentB at h
  unfold one
  split at h
  · rename_i h2
    rw [if_pos (Or.inr h2)]
  · have h3 : ent c.toNat = [] := by simpa [entB] using h
    rw [if_pos (Or.inl h3)]
theorem rent_text {c : UInt8} {q : Bool} {X : ByteArray} (h : rentB c.toNat q = X) (hX : ¬ X = ⟨#[]⟩) : one q c = X.data.toList := by
  subst h
  unfold rentB at hX ⊢
  unfold one
  split at hX
  · exact absurd rfl hX
  · rename_i h2
    rw [if_neg h2, if_neg]
    · rfl
    · rintro (h3 | h3)
      · exact hX (by rw [entB, h3])
      · exact h2 h3
theorem full {X : ByteArray} (h : ¬ X = ⟨#[]⟩) : X.toList.isEmpty = false := by
  rw [ByteArray.toList_eq]
  cases hl : X.data.toList with
  | nil =>
    have h2 : X = ⟨#[]⟩ := by
      apply ByteArray.ext
      apply Array.toList_inj.1
      rw [hl]
    exact absurd h2 h
  | cons a r => rfl
theorem rent_len (c : Nat) (q : Bool) : (rentB c q).size ≤ 8 := by
  unfold rentB
  split
  · decide
  · rw [entB_size]; exact ent_len c
end Go.Proofs.Ytfglbgnjgapehaa.HRow

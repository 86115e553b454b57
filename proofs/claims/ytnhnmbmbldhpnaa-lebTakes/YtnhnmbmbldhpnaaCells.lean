/- Rows of bytes of one's own, and bytes that are seen. -/
import Derived.Test.YtnhnmbmbldhpnaaBase
namespace Go.Proofs.Ytnhnmbmbldhpnaa.Base
set_option linter.unusedVariables false

/-- Bytes as cells. -/
def cellsL (l : List UInt8) : List Value := l.map fun c => Value.int .u8 (c.toNat : Int)
theorem cellsL_length (l : List UInt8) : (cellsL l).length = l.length := List.length_map _
theorem cellsL_append (a b : List UInt8) : cellsL (a ++ b) = cellsL a ++ cellsL b := List.map_append
theorem one_cells (L : List UInt8) : ∀ u ∈ cellsL L, u.oneCell' = true := by
  intro u hu
  obtain ⟨_, _, rfl⟩ := List.mem_map.1 hu
  rfl
theorem info5 : (Try.prog.info? 5).map (fun i => (i.zero, i.size, i.bytes)) = some (some (.int .u8 0), 1, 1) := by kernel_rfl
/-- v is a row of one's own (a block from B on) that holds the bytes L. -/
def Own (w : World) (B : Nat) (v : Value) (L : List UInt8) : Prop := w.ownsRow B 5 1 v L.length (cellsL L)
/-- v holds the bytes L. -/
def Seen (w : World) (v : Value) (L : List UInt8) : Prop :=
  ∃ a cap, v = .slice a L.length cap ∧ L.length ≤ cap ∧ cap ≤ maxLen ∧ (a = none → cap = 0) ∧ ∀ g o s, a = some ⟨g, o, s⟩ → ∀ j (hj : j < L.length), s = none ∧ w.cell? ⟨g, o + j, none⟩ = some (.int .u8 (L[j].toNat : Int))
theorem cell_new (w : World) (v : Value) (t : TypeId) : (w.alloc (.cells #[v] t)).cell? ⟨w.heap.size, 0, none⟩ = some v := by
  have h := heap_alloc_new w (.cells #[v] t)
  exact cell_of_one h
theorem add_none (g o j : Nat) : (⟨g, o, none⟩ : Addr).add j = ⟨g, o + j, none⟩ := by
  unfold Addr.add
  split
  · simp_all
  · rfl
theorem Own.seen {w : World} {B : Nat} {v : Value} {L : List UInt8} (h : Own w B v L) : Seen w v L := by
  rcases h.2 with ⟨rfl, h0⟩ | ⟨g, cap, cur, rfl, hb, hh, hn, hm, _⟩
  · have hL : L = [] := List.eq_nil_of_length_eq_zero h0
    subst hL
    exact ⟨none, 0, rfl, by simp, by simp, fun _ => rfl, fun g o s h => by cases h⟩
  · refine ⟨_, cap, rfl, hn, hm, (fun h => by cases h), fun g' o s h => ?_⟩
    cases h
    intro j hj
    refine ⟨rfl, ?_⟩
    have hc := World.ownsRow.cells (g := g) h rfl j (.int .u8 (L[j].toNat : Int)) (by simp [cellsL, hj])
    rw [add_none] at hc
    exact hc
theorem Own.kept {w w' : World} {B : Nat} {v : Value} {L : List UInt8} (h : Own w B v L) {row : Option Nat} (hg : w.grownBy w' row) (hne : v.ownBlock = none ∨ v.ownBlock ≠ row) : Own w' B v L := World.ownsRow.kept h hg hne
end Go.Proofs.Ytnhnmbmbldhpnaa.Base

/- Rows of one's own that stay as they are while others are made or spoiled. -/
import Derived.Test.YtnhnmbmbldhpnaaAwake
namespace Go.Proofs.Ytnhnmbmbldhpnaa.Base
set_option linter.unusedVariables false
open Go.ChangeShapes Go.WideShapes Go.ChangeAt Go.RowKit

/-- A call that makes a row of one's own of the bytes P. -/
def Makes (f : Nat) (x : Value) (P : List UInt8) : Prop := ∀ w : World, Calls Try.prog f #[x] w fun e w' => ∃ g cap, e = .returned (.slice (some ⟨g, 0, none⟩) P.length cap) ∧ w.heap.size ≤ g ∧ g < w'.heap.size ∧ Own w' w.heap.size (.slice (some ⟨g, 0, none⟩) P.length cap) P ∧ Below w.heap.size w w'
theorem makes {f : Nat} {x : Value} {P : List UInt8} (hP : P ≠ []) (h : ∀ w : World, Calls Try.prog f #[x] w fun e w' => ∃ v, e = .returned v ∧ Own w' w.heap.size v P ∧ Below w.heap.size w w') : Makes f x P := by
  intro w
  refine (h w).mono ?_
  rintro e w' ⟨v, rfl, ho, hb⟩
  obtain ⟨g, cap, rfl, h1, h2⟩ := ho.shape hP
  exact ⟨g, cap, rfl, h1, h2, ho, hb⟩
theorem below_own {w w' : World} {B : Nat} {v : Value} {L : List UInt8} (h : Own w B v L) (hb : Below w.heap.size w w') : Own w' B v L := by
  have hg : w.grownBy w' none := ⟨hb.os, hb.tape, hb.output, hb.size, fun k hk _ => hb.block k hk⟩
  cases hv : v.ownBlock with
  | none => exact h.kept hg (.inl hv)
  | some k => exact h.kept hg (.inr (by rw [hv]; simp))
theorem grown_own {w w' : World} {B k : Nat} {v : Value} {L : List UInt8} (h : Own w B v L) (hg : w.grownBy w' (some k)) (hne : v.ownBlock ≠ some k) : Own w' B v L := h.kept hg (.inr hne)
theorem nx {w w1 w2 : World} (h : Below w.heap.size w w1) (b : Below w1.heap.size w1 w2) : Below w.heap.size w w2 := h.trans (b.mono h.size)
theorem gx {w w1 w2 : World} {k : Nat} (h : Below w.heap.size w w1) (m : w1.grownBy w2 (some k)) (hk : w.heap.size ≤ k) : Below w.heap.size w w2 := h.grown m h.size (fun j hj => by cases hj; exact hk)
theorem seen_below {w w' : World} {v : Value} {L : List UInt8} (h : Seen w v L) (hb : Below w.heap.size w w') : Seen w' v L := by
  obtain ⟨a, cap, rfl, hlc, hm, hnil, hcell⟩ := h
  refine ⟨a, cap, rfl, hlc, hm, hnil, fun g o s e j hj => ?_⟩
  obtain ⟨hs, hc⟩ := hcell g o s e j hj
  exact ⟨hs, (hb.cell (block_lt_of_cell hc)).trans hc⟩
end Go.Proofs.Ytnhnmbmbldhpnaa.Base

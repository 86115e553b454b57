import Derived.Lib.FieldsU
import Derived.Lib.MapLaws
import Derived.Test.YtopjadjaknmfeabGreatDoorPk17
namespace Go.Proofs.YtopjadjaknmfeabGreatDoor.RBt
open Go.RowKit Go.Proofs.YtopjadjaknmfeabGreatDoor.Base Go.Proofs.YtopjadjaknmfeabGreatDoor.UBase Go.Proofs.YtopjadjaknmfeabGreatDoor.Spec Go.Proofs.YtopjadjaknmfeabGreatDoor.Nums Go.Proofs.YtopjadjaknmfeabGreatDoor.Dec
set_option linter.unusedVariables false
/-- L stands in s from i on. -/
def St (s : ByteArray) (i : Nat) (L : List UInt8) : Prop := i + L.length ≤ s.size ∧ ∀ j x, L[j]? = some x → at' s (i + j) = x.toNat
theorem St.head {s : ByteArray} {i : Nat} {x : UInt8} {L : List UInt8} (h : St s i (x :: L)) : at' s i = x.toNat := by simpa using h.2 0 x rfl
theorem St.lt {s : ByteArray} {i : Nat} {x : UInt8} {L : List UInt8} (h : St s i (x :: L)) : i < s.size := by
  have := h.1
  rw [List.length_cons] at this
  omega
theorem St.tail {s : ByteArray} {i : Nat} {x : UInt8} {L : List UInt8} (h : St s i (x :: L)) : St s (i + 1) L := by
  refine ⟨by have := h.1; rw [List.length_cons] at this; omega, fun j y hy => ?_⟩
  have := h.2 (j + 1) y (by simpa using hy)
  rw [← this]
  congr 1
  omega
theorem St.left {s : ByteArray} {i : Nat} {L M : List UInt8} (h : St s i (L ++ M)) : St s i L := by
  refine ⟨by have := h.1; rw [List.length_append] at this; omega, fun j x hx => h.2 j x ?_⟩
  rw [List.getElem?_append_left (List.getElem?_eq_some_iff.1 hx).1]
  exact hx
theorem St.right {s : ByteArray} {i : Nat} {L M : List UInt8} (h : St s i (L ++ M)) : St s (i + L.length) M := by
  refine ⟨by have := h.1; rw [List.length_append] at this; omega, fun j x hx => ?_⟩
  have := h.2 (L.length + j) x (by rw [List.getElem?_append_right (by omega), Nat.add_sub_cancel_left]; exact hx)
  rw [← this]
  congr 1
  omega
theorem St.whole (L : List UInt8) : St ⟨L.toArray⟩ 0 L := by
  have hs : (⟨L.toArray⟩ : ByteArray).size = L.length := by show L.toArray.size = _; simp
  refine ⟨by omega, fun j x hx => ?_⟩
  obtain ⟨hj, rfl⟩ := List.getElem?_eq_some_iff.1 hx
  rw [Nat.zero_add, at_get _ _ (by omega)]
  rfl
theorem enc_small {n : Nat} (h : n < 128) : Lib.encodeRune (n : Int) = [UInt8.ofNat n] := by
  unfold Lib.encodeRune
  rw [Lib.encodeRuneZ_one (by omega) (by omega)]
  simp
end Go.Proofs.YtopjadjaknmfeabGreatDoor.RBt

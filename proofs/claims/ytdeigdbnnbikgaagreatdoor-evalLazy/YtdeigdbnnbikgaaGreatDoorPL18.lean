import Derived.Lib.FieldsU
import Derived.Lib.MapLaws
import Derived.Test.YtdeigdbnnbikgaaGreatDoorPL17
set_option linter.unusedVariables false
namespace Go.Proofs.YtdeigdbnnbikgaaGreatDoor.RBt
open Go.RowKit Base UBase Go.Proofs.YtdeigdbnnbikgaaGreatDoor.Spec Nums Dec
/-- L stands in s from i on. -/
def St (s : ByteArray) (i : Nat) (L : List UInt8) : Prop := i + L.length ≤ s.size ∧ ∀ j x, L[j]? = some x → at' s (i + j) = x.toNat
theorem St.head {s : ByteArray} {i : Nat} {x : UInt8} {L : List UInt8} (h : St s i (x :: L)) : at' s i = x.toNat := by simpa using h.2 0 x rfl
theorem St.lt {s : ByteArray} {i : Nat} {x : UInt8} {L : List UInt8} (h : St s i (x :: L)) : i < s.size := by
 have := h.1
 rw [List.length_cons] at this
 omega
theorem St.tail {s : ByteArray} {i : Nat} {x : UInt8} {L : List UInt8} (h : St s i (x :: L)) : St s (i + 1) L := by
 refine ⟨by have := h.1; rw [List.length_cons] at this; omega, fun j y hy => ?_⟩
 have := h.2 (j + 1) y (by simpa using hy)
 rw [← this]
 congr 1
 omega
theorem St.left {s : ByteArray} {i : Nat} {L M : List UInt8} (h : St s i (L ++ M)) : St s i L := by
 refine ⟨by have := h.1; rw [List.length_append] at this; omega, fun j x hx => h.2 j x ?_⟩
 rw [List.getElem?_append_left (List.getElem?_eq_some_iff.1 hx).1]
 exact hx
theorem St.right {s : ByteArray} {i : Nat} {L M : List UInt8} (h : St s i (L ++ M)) : St s (i + L.length) M := by
 refine ⟨by have := h.1; rw [List.length_append] at this; omega, fun j x hx => ?_⟩
 have := h.2 (L.length + j) x (by rw [List.getElem?_append_right (by omega), Nat.add_sub_cancel_left]; exact hx)
 rw [← this]
 congr 1
 omega
theorem St.whole (L : List UInt8) : St ⟨L.toArray⟩ 0 L := by
 have hs : (⟨L.toArray⟩ : ByteArray).size = L.length := by show L.toArray.size = _; simp
 refine ⟨by omega, fun j x hx => ?_⟩
 obtain ⟨hj, rfl⟩ := List.getElem?_eq_some_iff.1 hx
 rw [Nat.zero_add, at_get _ _ (by omega)]
 rfl
theorem drop_cons {t : ByteArray} {k : Nat} (h : k < t.size) : ∃ x : UInt8, x.toNat = at' t k ∧ t.data.toList.drop k = x :: t.data.toList.drop (k + 1) := by
 have h' : k < t.data.toList.length := by simpa using h
 refine ⟨t.data.toList[k], ?_, List.drop_eq_getElem_cons h'⟩
 rw [at_get _ _ h]
 rfl
theorem enc_small {n : Nat} (h : n < 128) : Lib.encodeRune (n : Int) = [UInt8.ofNat n] := by
 unfold Lib.encodeRune
 rw [Lib.encodeRuneZ_one (by omega) (by omega)]
 simp
theorem decL_eq (t : ByteArray) (k : Nat) : Lib.decodeL (t.data.toList.drop k) = Utf8.decode t k := Lib.decodeL_drop ..
/-- A character of several bytes, encoded again. -/
theorem enc_good {t : ByteArray} {k : Nat} (h : k < t.size) (hl : len t k ≠ 0) (ha : 128 ≤ at' t k) : Lib.encodeRune ((Utf8.decode t k).1 : Int) = (t.data.toList.drop k).take (len t k) := by
 obtain ⟨d1, d2, d3⟩ := dec_good hl ha
 have hne : t.data.toList.drop k ≠ [] := by
  obtain ⟨x, -, e⟩ := drop_cons h
  rw [e]
  exact List.cons_ne_nil _ _
 have := Lib.encode_decode (t.data.toList.drop k) hne (by rw [decL_eq]; rintro ⟨-, e⟩; omega)
 rw [decL_eq, d1] at this
 exact this
end Go.Proofs.YtdeigdbnnbikgaaGreatDoor.RBt

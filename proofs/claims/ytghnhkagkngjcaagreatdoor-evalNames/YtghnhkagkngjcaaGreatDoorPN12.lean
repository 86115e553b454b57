import Derived.Lib.FieldsU
import Derived.Lib.MapLaws
import Derived.Test.YtghnhkagkngjcaaGreatDoorPN11
set_option linter.unusedVariables false
namespace Go.Proofs.YtghnhkagkngjcaaGreatDoor.RBt
open Go.RowKit Base UBase Nums Dec
theorem drop_cons {t : ByteArray} {k : Nat} (h : k < t.size) : ∃ x : UInt8, x.toNat = at' t k ∧ t.data.toList.drop k = x :: t.data.toList.drop (k + 1) := by
 have h' : k < t.data.toList.length := by simpa using h
 refine ⟨t.data.toList[k], ?_, List.drop_eq_getElem_cons h'⟩
 rw [at_get _ _ h]
 rfl
theorem enc_small {n : Nat} (h : n < 128) : Lib.encodeRune (n : Int) = [UInt8.ofNat n] := by
 unfold Lib.encodeRune
 rw [Lib.encodeRuneZ_one (by omega) (by omega)]
 simp
theorem decL_eq (t : ByteArray) (k : Nat) : Lib.decodeL (t.data.toList.drop k) = Utf8.decode t k := Lib.decodeL_drop ..
theorem enc_good {t : ByteArray} {k : Nat} (h : k < t.size) (hl : len t k ≠ 0) (ha : 128 ≤ at' t k) : Lib.encodeRune ((Utf8.decode t k).1 : Int) = (t.data.toList.drop k).take (len t k) := by
 obtain ⟨d1, d2, d3⟩ := dec_good hl ha
 have hne : t.data.toList.drop k ≠ [] := by
  obtain ⟨x, -, e⟩ := drop_cons h
  rw [e]
  exact List.cons_ne_nil _ _
 have := Lib.encode_decode (t.data.toList.drop k) hne (by rw [decL_eq]; rintro ⟨-, e⟩; omega)
 rw [decL_eq, d1] at this
 exact this
end Go.Proofs.YtghnhkagkngjcaaGreatDoor.RBt

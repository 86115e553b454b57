import Derived.Lib.RuneBytes
import Derived.Shelf.Unicode.DecodeSlow
import Derived.Test.YtghnhkagkngjcaaGreatDoorPN00
import Derived.Test.YtghnhkagkngjcaaGreatDoorPN01
import Derived.Test.YtghnhkagkngjcaaGreatDoorPN03
set_option linter.unusedVariables false
namespace Go.Proofs.YtghnhkagkngjcaaGreatDoor.Dec
open Go.RowKit Base UBase
theorem at_extract (s : ByteArray) (i j : Nat) (h : i ≤ s.size) : at' (s.extract i s.size) j = at' s (i + j) := by
 by_cases hj : i + j < s.size
 ·rw [at_get s _ hj, at_get (s.extract i s.size) j (by simp; omega)]
  congr 1
  exact ByteArray.getElem_extract ..
 ·rw [at_out s _ hj, at_out (s.extract i s.size) j (by simp; omega)]
theorem dec_extract (s : ByteArray) (i : Nat) (h : i < s.size) : Lib.decodeGo (s.extract i s.size) = Utf8.decode s i := by
 unfold Lib.decodeGo
 rw [if_neg (by simp; omega), dec_eq, dec_eq]
 simp only [at_extract s i _ (Nat.le_of_lt h), Nat.add_zero, Nat.zero_add]
theorem dec4_ge (a b c d : Nat) (ha : 128 ≤ a) : 128 ≤ (dec4 a b c d).1 := by
 unfold dec4
 repeat' split
 all_goals (dsimp only; omega)
theorem dec4_bad (a b c d : Nat) (ha : a < 256) (hb : b < 256) (hc : c < 256) (hd : d < 256) (h : len4 a b c d = 0) : dec4 a b c d = (65533, 1) := by
 have h4 := ((four a b c d ha hb hc hd).1.1 h)
 obtain ⟨h1, h2⟩ := h4
 unfold dec4 at h1 ⊢
 by_cases e1 : a < 128
 ·rw [if_pos e1] at h1; dsimp only at h1; omega
 rw [if_neg e1] at h1 ⊢
 by_cases e2 : a / 32 = 6 ∧ b / 64 = 2
 ·rw [if_pos e2] at h1 ⊢
  split at h1
  ·dsimp only at h1; omega
  ·next hn => rw [if_neg hn]
 rw [if_neg e2] at h1 ⊢
 by_cases e3 : a / 16 = 14 ∧ b / 64 = 2 ∧ c / 64 = 2
 ·rw [if_pos e3] at h1 ⊢
  split at h1
  ·dsimp only at h1; exact absurd ⟨by omega, by omega, by omega⟩ h2
  ·next hn => rw [if_neg hn]
 rw [if_neg e3] at h1 ⊢
 by_cases e4 : a / 8 = 30 ∧ b / 64 = 2 ∧ c / 64 = 2 ∧ d / 64 = 2
 ·rw [if_pos e4] at h1 ⊢
  split at h1
  ·dsimp only at h1; omega
  ·next hn => rw [if_neg hn]
 rw [if_neg e4]
theorem dec_bad {s : ByteArray} {i : Nat} (h : len s i = 0) : Utf8.decode s i = (65533, 1) := by
 rw [dec_eq]
 rw [len_eq] at h
 exact dec4_bad _ _ _ _ (at_lt ..) (at_lt ..) (at_lt ..) (at_lt ..) h
theorem dec_small {s : ByteArray} {i : Nat} (h : at' s i < 128) : Utf8.decode s i = (at' s i, 1) := by
 rw [dec_eq, dec4, if_pos h]
theorem dec_good {s : ByteArray} {i : Nat} (h : len s i ≠ 0) (ha : 128 ≤ at' s i) : (Utf8.decode s i).2 = len s i ∧ 2 ≤ len s i ∧ 128 ≤ (Utf8.decode s i).1 := by
 refine ⟨(dec_len s i).2.1 h, ?_, ?_⟩
 ·rcases len_parts s i with e | ⟨e, _⟩ | ⟨e, _⟩ | ⟨e, _⟩ | ⟨e, _⟩ <;> omega
 ·rw [dec_eq]; exact dec4_ge _ _ _ _ ha
theorem dec_le (s : ByteArray) (i : Nat) : (Utf8.decode s i).1 ≤ 1114111 := by
 rw [dec_eq]
 have h0 := at_lt s i
 have h1 := at_lt s (i + 1)
 have h2 := at_lt s (i + 2)
 have h3 := at_lt s (i + 3)
 unfold dec4
 repeat' split
 all_goals (dsimp only; omega)
end Go.Proofs.YtghnhkagkngjcaaGreatDoor.Dec

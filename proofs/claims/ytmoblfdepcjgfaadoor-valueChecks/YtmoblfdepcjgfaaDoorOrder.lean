/- The order of texts by their bytes, and what a sorted list says of names that stand twice. -/
import Derived.Test.YtmoblfdepcjgfaaDoorNames
namespace Go.Proofs.YtmoblfdepcjgfaaDoor.Order
open Go.RowKit Go.Proofs.YtmoblfdepcjgfaaDoor.Base Go.Proofs.YtmoblfdepcjgfaaDoor.Eq Go.Proofs.YtmoblfdepcjgfaaDoor.Names
set_option linter.unusedVariables false

theorem less_irrefl : ∀ (x : List UInt8), Op.bytesLess x x = false
  | [] => rfl
  | a :: x => by simp [Op.bytesLess, less_irrefl x]
theorem less_total : ∀ (x y : List UInt8), Op.bytesLess x y = true ∨ x = y ∨ Op.bytesLess y x = true
  | [], [] => .inr (.inl rfl)
  | [], _ :: _ => .inl rfl
  | _ :: _, [] => .inr (.inr rfl)
  | a :: x, b :: y => by
    simp only [Op.bytesLess, Bool.or_eq_true, Bool.and_eq_true, decide_eq_true_eq, beq_iff_eq, List.cons.injEq]
    by_cases h1 : a < b
    · exact .inl (.inl h1)
    by_cases h2 : b < a
    · exact .inr (.inr (.inl h2))
    have e : a = b := by
      have h1 : ¬ a.toNat < b.toNat := h1
      have h2 : ¬ b.toNat < a.toNat := h2
      exact UInt8.toNat_inj.1 (by omega)
    subst e
    rcases less_total x y with h | h | h
    · exact .inl (.inr ⟨rfl, h⟩)
    · exact .inr (.inl ⟨rfl, h⟩)
    · exact .inr (.inr (.inr ⟨rfl, h⟩))
theorem less_trans : ∀ (x y z : List UInt8), Op.bytesLess x y = true → Op.bytesLess y z = true → Op.bytesLess x z = true
  | _, [], _, h, _ => by cases ‹List UInt8› <;> simp [Op.bytesLess] at h
  | _, _ :: _, [], _, h => by simp [Op.bytesLess] at h
  | [], _ :: _, _ :: _, _, _ => rfl
  | a :: x, b :: y, c :: z, h1, h2 => by
    simp only [Op.bytesLess, Bool.or_eq_true, Bool.and_eq_true, decide_eq_true_eq, beq_iff_eq] at h1 h2 ⊢
    rcases h1 with h1 | ⟨rfl, h1⟩
    · rcases h2 with h2 | ⟨rfl, h2⟩
      · have h1 : a.toNat < b.toNat := h1
        have h2 : b.toNat < c.toNat := h2
        exact .inl (show a.toNat < c.toNat by omega)
      · exact .inl h1
    · rcases h2 with h2 | ⟨rfl, h2⟩
      · exact .inl h2
      · exact .inr ⟨rfl, less_trans x y z h1 h2⟩
/-- At most, as the program says it. -/
def le (a b : ByteArray) : Bool := Op.bytesLess a.toList b.toList || a.toList == b.toList
theorem le_iff (a b : ByteArray) : le a b = true ↔ Op.bytesLess a.toList b.toList = true ∨ a = b := by
  unfold le
  rw [Bool.or_eq_true, show (a.toList == b.toList) = eqB a b from rfl, eqB_eq]
theorem list_inj {a b : ByteArray} (h : a.toList = b.toList) : a = b := eqB_eq.1 (by unfold eqB; rw [h]; simp)
theorem le_total (a b : ByteArray) : le a b = true ∨ le b a = true := by
  rw [le_iff, le_iff]
  rcases less_total a.toList b.toList with h | h | h
  · exact .inl (.inl h)
  · exact .inl (.inr (list_inj h))
  · exact .inr (.inl h)
theorem le_trans {a b c : ByteArray} (h1 : le a b = true) (h2 : le b c = true) : le a c = true := by
  rw [le_iff] at *
  rcases h1 with h1 | rfl
  · rcases h2 with h2 | rfl
    · exact .inl (less_trans _ _ _ h1 h2)
    · exact .inl h1
  · exact h2
theorem le_antisymm {a b : ByteArray} (h1 : le a b = true) (h2 : le b a = true) : a = b := by
  rw [le_iff] at *
  rcases h1 with h1 | rfl
  · rcases h2 with h2 | rfl
    · have := less_trans _ _ _ h1 h2
      rw [less_irrefl] at this
      cases this
    · rfl
  · rfl
def Srt (L : List ByteArray) : Prop := ∀ i j (h1 : i < L.length) (h2 : j < L.length), i ≤ j → le L[i] L[j] = true
theorem srt_nodup {L : List ByteArray} (h : Srt L) (hn : ∀ i (h1 : i < L.length) (h2 : i + 1 < L.length), eqB L[i] L[i + 1] = false) : L.Nodup := by
  rw [List.nodup_iff_pairwise_ne, List.pairwise_iff_getElem]
  intro i j hi hj hlt e
  have e1 := h i (i + 1) hi (by omega) (by omega)
  have e2 := h (i + 1) j (by omega) hj (by omega)
  rw [← e] at e2
  have := hn i hi (by omega)
  rw [eqB_eq.2 (le_antisymm e1 e2)] at this
  cases this
theorem nd_perm {L M : List ByteArray} (h : L.Perm M) : nd L = nd M := by
  rw [Bool.eq_iff_iff, nd_iff, nd_iff]
  exact h.nodup_iff
theorem nd_twice {L : List ByteArray} {i : Nat} (h1 : i < L.length) (h2 : i + 1 < L.length) (h : eqB L[i] L[i + 1] = true) : nd L = false := by
  by_cases hd : nd L = true
  · have := (List.getElem_inj (nd_iff.1 hd)).1 (eqB_eq.1 h)
    omega
  · simpa using hd
end Go.Proofs.YtmoblfdepcjgfaaDoor.Order

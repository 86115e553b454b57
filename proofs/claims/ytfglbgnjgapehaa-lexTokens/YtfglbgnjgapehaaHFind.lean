/- Which of the five entities begins a text: found by trying one after the other. -/
import Derived.Test.YtfglbgnjgapehaaHBase
import Derived.Lib.Strings
namespace Go.Proofs.Ytfglbgnjgapehaa.HFind
open Go.Proofs.Ytfglbgnjgapehaa.HBase
set_option linter.unusedVariables false

/-- The five bytes. -/
def sp (k : Nat) : Nat := if k = 0 then 38 else if k = 1 then 60 else if k = 2 then 62 else if k = 3 then 123 else 34
/-- None of the first k entities begins the text. -/
def miss (k : Nat) (l : List UInt8) : Prop :=
  (0 < k → pre 38 l = false) ∧ (1 < k → pre 60 l = false) ∧ (2 < k → pre 62 l = false) ∧ (3 < k → pre 123 l = false) ∧ (4 < k → pre 34 l = false)
theorem miss_zero (l : List UInt8) : miss 0 l := by simp [miss]
theorem five {k : Nat} (h : k < 5) : k = 0 ∨ k = 1 ∨ k = 2 ∨ k = 3 ∨ k = 4 := by omega
theorem miss_more {k : Nat} {l : List UInt8} (h : miss k l) (hk : k < 5) (hp : pre (sp k) l = false) : miss (k + 1) l := by
  rcases five hk with rfl | rfl | rfl | rfl | rfl <;> simp_all [miss, sp]
theorem miss_hit {k : Nat} {l : List UInt8} (h : miss k l) (hk : k < 5) (hp : pre (sp k) l = true) : hit l = some (sp k) := by
  rcases five hk with rfl | rfl | rfl | rfl | rfl <;> simp_all [miss, sp, hit]
theorem miss_all {l : List UInt8} (h : miss 5 l) : hit l = none := by
  simp_all [miss, hit]
theorem sp_get {k : Nat} (hk : k < 5) (h : k < (⟨#[38, 60, 62, 123, 34]⟩ : ByteArray).size) : ((⟨#[38, 60, 62, 123, 34]⟩ : ByteArray)[k]'h).toNat = sp k := by
  rcases five hk with rfl | rfl | rfl | rfl | rfl <;> rfl
theorem sp_lt (k : Nat) : sp k < 256 := by unfold sp; repeat' split
                                           all_goals decide
theorem sp_toNat (k : Nat) : (UInt8.ofNat (sp k)).toNat = sp k := by
  have := sp_lt k
  simp
  omega
theorem sp_pos {k : Nat} (hk : k < 5) : 0 < (entB (sp k)).size := by
  rw [entB_size]
  rcases five hk with rfl | rfl | rfl | rfl | rfl <;> decide
theorem pre_behind (s : ByteArray) (n c : Nat) : Lib.hasPrefix (s.extract n s.size).data.toList (entB c).data.toList = pre c (s.data.toList.drop n) := by
  rw [Lib.extract_data, List.take_of_length_le (by rw [List.length_drop, Lib.size_eq]; exact Nat.le_refl _)]
  rfl
theorem pre_len {c : Nat} {l : List UInt8} (h : pre c l = true) : (ent c).length ≤ l.length := (List.isPrefixOf_iff_prefix.1 h).length_le
theorem pre_in {s : ByteArray} {n c : Nat} (hn : n ≤ s.size) (h : pre c (s.data.toList.drop n) = true) : n + (entB c).size ≤ s.size := by
  have h1 := pre_len h
  have h2 := Lib.size_eq s
  rw [List.length_drop, ← h2] at h1
  rw [entB_size]
  omega
theorem pre_mid {s : ByteArray} {n c : Nat} (hn : n + (entB c).size ≤ s.size) : ((s.extract n (n + (entB c).size)).toList == (entB c).toList) = pre c (s.data.toList.drop n) := by
  rw [Lib.extract_toList, Lib.toList_data]
  have e : n + (entB c).size - n = (ent c).length := by rw [entB_size]; omega
  have h2 := Lib.hasPrefix_of_take (s.data.toList.drop n) (ent c)
  have h3 : decide ((ent c).length ≤ (s.data.toList.drop n).length) = true := by
    have h4 : s.data.size = s.size := rfl
    rw [entB_size] at hn
    simp
    omega
  rw [h3, Bool.true_and] at h2
  rw [e]
  exact h2
theorem pre_out {s : ByteArray} {n c : Nat} (hn : ¬ n + (entB c).size ≤ s.size) (hl : n ≤ s.size) : pre c (s.data.toList.drop n) = false := by
  cases h : pre c (s.data.toList.drop n) with
  | false => rfl
  | true => exact absurd (pre_in hl h) hn
theorem drop_at {s : ByteArray} {n : Nat} (h : n < s.size) : s.data.toList.drop n = s[n] :: s.data.toList.drop (n + 1) :=
  List.drop_eq_getElem_cons (by simpa using h)
/-- One step of reading back: a byte that is no ampersand; an entity; none. -/
theorem go_byte {s : ByteArray} {n f : Nat} {acc : List UInt8} {c : UInt8} (h : n < s.size) (hc : s[n] = c) (h38 : ¬ c.toNat = 38) (hf : s.size ≤ n + f) :
    ∃ g, s.size ≤ n + 1 + g ∧ pl f (s.data.toList.drop n) n acc = pl g (s.data.toList.drop (n + 1)) (n + 1) (acc ++ [c]) := by
  obtain ⟨g, rfl⟩ : ∃ g, f = g + 1 := ⟨f - 1, by omega⟩
  refine ⟨g, by omega, ?_⟩
  rw [drop_at h, hc, pl_byte h38]
theorem go_hit {s : ByteArray} {n f b : Nat} {acc : List UInt8} {c : UInt8} (h : n < s.size) (hc : s[n] = c) (h38 : c.toNat = 38) (hf : s.size ≤ n + f) (hb : hit (s.data.toList.drop n) = some b) (hp : 0 < (entB b).size) :
    ∃ g, s.size ≤ n + (entB b).size + g ∧ pl f (s.data.toList.drop n) n acc = pl g (s.data.toList.drop (n + (entB b).size)) (n + (entB b).size) (acc ++ [UInt8.ofNat b]) := by
  obtain ⟨g, rfl⟩ : ∃ g, f = g + 1 := ⟨f - 1, by omega⟩
  refine ⟨g, by omega, ?_⟩
  have e : (s.data.toList.drop n).drop (ent b).length = s.data.toList.drop (n + (entB b).size) := by rw [List.drop_drop, entB_size]
  rw [drop_at h, hc] at hb e ⊢
  rw [pl_hit h38 hb, e, entB_size]
theorem go_none {s : ByteArray} {n f : Nat} {acc : List UInt8} {c : UInt8} (h : n < s.size) (hc : s[n] = c) (h38 : c.toNat = 38) (hf : s.size ≤ n + f) (hb : hit (s.data.toList.drop n) = none) :
    pl f (s.data.toList.drop n) n acc = ([], n, 400) := by
  obtain ⟨g, rfl⟩ : ∃ g, f = g + 1 := ⟨f - 1, by omega⟩
  rw [drop_at h, hc] at hb ⊢
  rw [pl_none h38 hb]
theorem go_end {s : ByteArray} {n f : Nat} {acc : List UInt8} (h : s.size ≤ n) : pl f (s.data.toList.drop n) n acc = (acc, 0, 0) := by
  rw [List.drop_eq_nil_of_le (by simpa using h), pl_end]
theorem ans {s : ByteArray} {a : List UInt8} {b c : Nat} (h : (a, b, c) = plain s) : (⟨a.toArray⟩ : ByteArray) = ptext s ∧ b = pat s ∧ c = perr s := by
  unfold ptext pat perr
  rw [← h]
  exact ⟨rfl, rfl, rfl⟩
end Go.Proofs.Ytfglbgnjgapehaa.HFind

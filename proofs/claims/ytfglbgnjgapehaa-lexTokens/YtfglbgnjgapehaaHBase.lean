/- Texts, plainly: entities, what is escaped, what is read back. -/
import Derived.Test.YtfglbgnjgapehaaChecked
import Derived.WalkKit
import Derived.ProofKit
import Derived.OpenShut
import Derived.Below
namespace Go.Proofs.Ytfglbgnjgapehaa.HBase
set_option linter.unusedVariables false

/-- What stands for a byte; nothing: it stands for itself. -/
def ent (c : Nat) : List UInt8 :=
  if c = 38 then [38, 97, 109, 112, 59] else if c = 60 then [38, 108, 116, 59] else if c = 62 then [38, 103, 116, 59]
  else if c = 123 then [38, 108, 98, 114, 97, 99, 101, 59] else if c = 34 then [38, 113, 117, 111, 116, 59] else []
def entB (c : Nat) : ByteArray := ⟨(ent c).toArray⟩
/-- One byte, escaped; all of a text's bytes, escaped one by one. -/
def one (q : Bool) (c : UInt8) : List UInt8 := if ent c.toNat = [] ∨ (c.toNat = 34 ∧ q = false) then [c] else ent c.toNat
def esc (q : Bool) (l : List UInt8) : List UInt8 := l.flatMap (one q)
def escB (q : Bool) (s : ByteArray) : ByteArray := ⟨(esc q s.data.toList).toArray⟩
/-- Does a byte's entity begin the text? Which of the five does? -/
def pre (c : Nat) (l : List UInt8) : Bool := (ent c).isPrefixOf l
def hit (l : List UInt8) : Option Nat :=
  if pre 38 l = true then some 38 else if pre 60 l = true then some 60 else if pre 62 l = true then some 62 else if pre 123 l = true then some 123 else if pre 34 l = true then some 34 else none
/-- Read back, once from the left: the text, the place, the error. -/
def pl : Nat → List UInt8 → Nat → List UInt8 → List UInt8 × Nat × Nat
  | 0, _, _, acc => (acc, 0, 0)
  | _ + 1, [], _, acc => (acc, 0, 0)
  | f + 1, c :: r, p, acc =>
    if c.toNat = 38 then (match hit (c :: r) with
      | some b => pl f ((c :: r).drop (ent b).length) (p + (ent b).length) (acc ++ [UInt8.ofNat b])
      | none => ([], p, 400))
    else pl f r (p + 1) (acc ++ [c])
def plain (s : ByteArray) : List UInt8 × Nat × Nat := pl s.size s.data.toList 0 []
def ptext (s : ByteArray) : ByteArray := ⟨(plain s).1.toArray⟩
def pat (s : ByteArray) : Nat := (plain s).2.1
def perr (s : ByteArray) : Nat := (plain s).2.2

theorem pl_end (f p : Nat) (acc : List UInt8) : pl f [] p acc = (acc, 0, 0) := by cases f <;> rfl
theorem pl_byte {c : UInt8} (h : ¬ c.toNat = 38) (f p : Nat) (r acc : List UInt8) : pl (f + 1) (c :: r) p acc = pl f r (p + 1) (acc ++ [c]) := by
  simp [pl, h]
theorem pl_hit {c : UInt8} (h : c.toNat = 38) {b : Nat} {r : List UInt8} (hb : hit (c :: r) = some b) (f p : Nat) (acc : List UInt8) :
    pl (f + 1) (c :: r) p acc = pl f ((c :: r).drop (ent b).length) (p + (ent b).length) (acc ++ [UInt8.ofNat b]) := by
  simp only [pl, h, hb, if_true]
theorem pl_none {c : UInt8} (h : c.toNat = 38) {r : List UInt8} (hb : hit (c :: r) = none) (f p : Nat) (acc : List UInt8) : pl (f + 1) (c :: r) p acc = ([], p, 400) := by
  simp only [pl, h, hb, if_true]
theorem ent_len (c : Nat) : (ent c).length ≤ 8 := by
  unfold ent
  repeat' split
  all_goals decide
theorem entB_size (c : Nat) : (entB c).size = (ent c).length := by simp [entB, ByteArray.size]
theorem ent_none {c : Nat} (h : ¬ c = 38) (h2 : ¬ c = 60) (h3 : ¬ c = 62) (h4 : ¬ c = 123) (h5 : ¬ c = 34) : ent c = [] := by simp [ent, h, h2, h3, h4, h5]
theorem one_len (q : Bool) (c : UInt8) : (one q c).length ≤ 8 := by
  unfold one
  split
  · simp
  · exact ent_len _
theorem esc_nil (q : Bool) : esc q [] = [] := rfl
theorem esc_cons (q : Bool) (c : UInt8) (r : List UInt8) : esc q (c :: r) = one q c ++ esc q r := by simp [esc]
theorem esc_append (q : Bool) (a b : List UInt8) : esc q (a ++ b) = esc q a ++ esc q b := by simp [esc]
theorem esc_len (q : Bool) (l : List UInt8) : (esc q l).length ≤ 8 * l.length := by
  induction l with
  | nil => simp [esc]
  | cons c r ih => have := one_len q c; rw [esc_cons, List.length_append, List.length_cons]; omega
theorem byte_eq {c : UInt8} {n : Nat} (h : c.toNat = n) (hn : n < 256) : c = UInt8.ofNat n := by
  apply UInt8.toNat_inj.1
  rw [h]
  simp
  omega
/-- Read back, what is escaped is the text. -/
theorem back (q : Bool) (l : List UInt8) : ∀ (f p : Nat) (acc : List UInt8), (esc q l).length ≤ f → pl f (esc q l) p acc = (acc ++ l, 0, 0) := by
  induction l with
  | nil => intro f p acc _; rw [esc_nil, pl_end, List.append_nil]
  | cons c r ih =>
    intro f p acc hf
    rw [esc_cons] at hf ⊢
    rw [List.length_append] at hf
    have plainly : one q c = [c] → ¬ c.toNat = 38 → pl f (one q c ++ esc q r) p acc = (acc ++ c :: r, 0, 0) := by
      intro h1 h2
      rw [h1] at hf ⊢
      obtain ⟨g, rfl⟩ : ∃ g, f = g + 1 := ⟨f - 1, by simp at hf; omega⟩
      rw [List.singleton_append, pl_byte h2, ih _ _ _ (by simp at hf; omega), List.append_assoc, List.singleton_append]
    have named : one q c = ent c.toNat → (∃ t, ent c.toNat = 38 :: t) → hit (ent c.toNat ++ esc q r) = some c.toNat → pl f (one q c ++ esc q r) p acc = (acc ++ c :: r, 0, 0) := by
      intro h1 ⟨t, ht⟩ h3
      rw [h1] at hf ⊢
      have hl : (ent c.toNat).length = t.length + 1 := by rw [ht]; simp
      obtain ⟨g, rfl⟩ : ∃ g, f = g + 1 := ⟨f - 1, by omega⟩
      have h4 : ent c.toNat ++ esc q r = 38 :: (t ++ esc q r) := by rw [ht]; rfl
      have hd : (38 :: (t ++ esc q r)).drop (ent c.toNat).length = esc q r := by rw [← h4]; simp
      rw [h4] at h3 ⊢
      rw [pl_hit (by decide) h3, hd, ih _ _ _ (by omega), List.append_assoc, List.singleton_append]
      congr 3
      simp
    by_cases h38 : c.toNat = 38
    · exact named (by simp [one, ent, h38]) (by simp [ent, h38]) (by simp [ent, h38, hit, pre, List.isPrefixOf])
    · by_cases h60 : c.toNat = 60
      · exact named (by simp [one, ent, h60]) (by simp [ent, h60]) (by simp [ent, h60, hit, pre, List.isPrefixOf])
      · by_cases h62 : c.toNat = 62
        · exact named (by simp [one, ent, h62]) (by simp [ent, h62]) (by simp [ent, h62, hit, pre, List.isPrefixOf])
        · by_cases h123 : c.toNat = 123
          · exact named (by simp [one, ent, h123]) (by simp [ent, h123]) (by simp [ent, h123, hit, pre, List.isPrefixOf])
          · by_cases h34 : c.toNat = 34
            · cases q with
              | false => exact plainly (by simp [one, h34]) h38
              | true => exact named (by simp [one, ent, h34]) (by simp [ent, h34]) (by simp [ent, h34, hit, pre, List.isPrefixOf])
            · exact plainly (by simp [one, ent_none h38 h60 h62 h123 h34]) h38
theorem back_plain (q : Bool) (s : ByteArray) : plain (escB q s) = (s.data.toList, 0, 0) := by
  have h := back q s.data.toList (escB q s).size 0 [] (by simp [escB, ByteArray.size])
  rw [List.nil_append] at h
  exact h
theorem back_text (q : Bool) (s : ByteArray) : ptext (escB q s) = s ∧ pat (escB q s) = 0 ∧ perr (escB q s) = 0 := by
  unfold ptext pat perr
  rw [back_plain]
  exact ⟨rfl, rfl, rfl⟩
/-- What is escaped for a quoted value has none of the bytes that mean something. -/
theorem free (l : List UInt8) : ∀ x ∈ esc true l, ¬ x.toNat = 60 ∧ ¬ x.toNat = 62 ∧ ¬ x.toNat = 34 ∧ ¬ x.toNat = 123 := by
  intro x hx
  obtain ⟨c, _, hc⟩ := List.mem_flatMap.1 hx
  unfold one at hc
  split at hc
  · rename_i h
    rw [List.mem_singleton] at hc
    subst hc
    have h1 : ent x.toNat = [] := by rcases h with h | h
                                     · exact h
                                     · exact absurd h.2 (by decide)
    refine ⟨?_, ?_, ?_, ?_⟩ <;> (intro e; rw [e] at h1; exact absurd h1 (by decide))
  · unfold ent at hc
    repeat' split at hc
    all_goals (clear hx; revert x; decide)
/-- One byte more. -/
theorem esc_more (q : Bool) (l : List UInt8) (n : Nat) (h : n < l.length) : esc q (l.take (n + 1)) = esc q (l.take n) ++ one q l[n] := by
  rw [List.take_succ_eq_append_getElem h, esc_append]
  simp [esc]
theorem escB_append (q : Bool) (s t : ByteArray) : escB q (s ++ t) = escB q s ++ escB q t := by
  unfold escB
  apply ByteArray.ext
  simp [esc_append]
end Go.Proofs.Ytfglbgnjgapehaa.HBase

/- The HTML of trees, plainly, and how long it is. -/
import Derived.Test.YtonoalbhpligfaaTBuild
import Derived.Test.YtonoalbhpligfaaEsc
namespace Go.Proofs.Ytonoalbhpligfaa.TSpecH
open Go.RowKit Go.Proofs.Ytonoalbhpligfaa.TBase Go.Proofs.Ytonoalbhpligfaa.Base
set_option linter.unusedVariables false

def at1 (t : ByteArray × ByteArray) : List UInt8 := 32 :: (t.1.data.toList ++ 61 :: 34 :: (esc true t.2.data.toList ++ [34]))
def ats (n : List (ByteArray × ByteArray)) : List UInt8 := n.flatMap at1
def ht : List T → List UInt8
  | [] => []
  | .mk g s n l :: cs => (if g.toList.isEmpty = true then esc false s.data.toList else 60 :: (g.data.toList ++ (ats n ++ 62 :: (ht l ++ 60 :: 47 :: (g.data.toList ++ [62]))))) ++ ht cs
/-- One tree. -/
def h1 (c : T) : List UInt8 := if c.g.toList.isEmpty = true then esc false c.s.data.toList else 60 :: (c.g.data.toList ++ (ats c.n ++ 62 :: (ht c.l ++ 60 :: 47 :: (c.g.data.toList ++ [62]))))
theorem ht_nil : ht [] = [] := by rw [ht]
theorem ht_cons (c : T) (cs : List T) : ht (c :: cs) = h1 c ++ ht cs := by
  obtain ⟨g, s, n, l⟩ := c
  rw [ht]
  rfl
theorem ht_append (a b : List T) : ht (a ++ b) = ht a ++ ht b := by
  induction a with
  | nil => rw [List.nil_append, ht_nil, List.nil_append]
  | cons c a ih => rw [List.cons_append, ht_cons, ht_cons, ih, List.append_assoc]
theorem ht_take (l : List T) (q : Nat) (h : q < l.length) : ht (l.take (q + 1)) = ht (l.take q) ++ h1 l[q] := by
  rw [List.take_succ_eq_append_getElem h, ht_append, ht_cons, ht_nil, List.append_nil]
theorem ats_take (n : List (ByteArray × ByteArray)) (q : Nat) (h : q < n.length) : ats (n.take (q + 1)) = ats (n.take q) ++ at1 n[q] := by
  unfold ats
  rw [List.take_succ_eq_append_getElem h, List.flatMap_append, List.flatMap_cons, List.flatMap_nil, List.append_nil]
/-- How much trees hold. -/
def wa : List (ByteArray × ByteArray) → Nat
  | [] => 0
  | t :: n => t.1.size + t.2.size + 1 + wa n
def wt : List T → Nat
  | [] => 0
  | .mk g s n l :: cs => g.size + s.size + wa n + 1 + wt l + wt cs
def w1 (c : T) : Nat := c.g.size + c.s.size + wa c.n + 1 + wt c.l
theorem wt_nil : wt [] = 0 := by rw [wt]
theorem wt_cons (c : T) (cs : List T) : wt (c :: cs) = w1 c + wt cs := by
  obtain ⟨g, s, n, l⟩ := c
  rw [wt]
  rfl
theorem wt_append (a b : List T) : wt (a ++ b) = wt a + wt b := by
  induction a with
  | nil => rw [List.nil_append, wt_nil]; omega
  | cons c a ih => rw [List.cons_append, wt_cons, wt_cons, ih]; omega
theorem wt_split (l : List T) (q : Nat) (h : q < l.length) : wt (l.take q) + w1 l[q] ≤ wt l := by
  have e : l = (l.take q ++ [l[q]]) ++ l.drop (q + 1) := by rw [← List.take_succ_eq_append_getElem h, List.take_append_drop]
  have e2 : wt l = wt ((l.take q ++ [l[q]]) ++ l.drop (q + 1)) := congrArg wt e
  rw [wt_append, wt_append, wt_cons, wt_nil] at e2
  omega
theorem wa_append (a b : List (ByteArray × ByteArray)) : wa (a ++ b) = wa a + wa b := by
  induction a with
  | nil => rw [List.nil_append, wa]; omega
  | cons c a ih => rw [List.cons_append, wa, wa, ih]; omega
theorem wa_split (n : List (ByteArray × ByteArray)) (q : Nat) (h : q < n.length) : wa (n.take q) + (n[q].1.size + n[q].2.size + 1) ≤ wa n := by
  have e : n = (n.take q ++ [n[q]]) ++ n.drop (q + 1) := by rw [← List.take_succ_eq_append_getElem h, List.take_append_drop]
  have e2 : wa n = wa ((n.take q ++ [n[q]]) ++ n.drop (q + 1)) := congrArg wa e
  rw [wa_append, wa_append, wa, wa] at e2
  omega
theorem size_list (s : ByteArray) : s.data.toList.length = s.size := by rw [Array.length_toList]; rfl
theorem at1_len (t : ByteArray × ByteArray) : (at1 t).length ≤ 16 * (t.1.size + t.2.size + 1) := by
  unfold at1
  have := esc_len true t.2.data.toList
  rw [size_list] at this
  simp only [List.length_cons, List.length_append, size_list, List.length_nil]
  omega
theorem ats_len (n : List (ByteArray × ByteArray)) : (ats n).length ≤ 16 * wa n := by
  induction n with
  | nil => simp [ats]
  | cons t n ih =>
    have h := at1_len t
    unfold ats at ih ⊢
    rw [List.flatMap_cons, List.length_append, wa]
    omega
theorem ht_len : ∀ (m : Nat) (l : List T), SizeOf.sizeOf l ≤ m → (ht l).length ≤ 16 * wt l := by
  intro m
  induction m with
  | zero =>
    intro l hm
    cases l with
    | nil => rw [ht_nil]; simp
    | cons c cs => simp at hm
  | succ m ih =>
    intro l hm
    cases l with
    | nil => rw [ht_nil]; simp
    | cons c cs =>
      obtain ⟨g, s, n, l⟩ := c
      simp at hm
      have i1 := ih l (by omega)
      have i2 := ih cs (by omega)
      have i3 := ats_len n
      have i4 := esc_len false s.data.toList
      rw [size_list] at i4
      rw [ht_cons, wt_cons, List.length_append]
      unfold h1 w1
      split
      · simp only [T.s, T.g, T.n, T.l] at *
        omega
      · simp only [List.length_cons, List.length_append, size_list, List.length_nil, T.s, T.g, T.n, T.l] at *
        omega
theorem h1_len (c : T) : (h1 c).length ≤ 16 * w1 c := by
  have h := ht_len _ [c] (Nat.le_refl _)
  rw [ht_cons, ht_nil, wt_cons, wt_nil, List.append_nil] at h
  exact h
theorem cells_str (x : ByteArray) : Lib.strCells x = Lib.byteCells x.data.toList := rfl
theorem cells_len (x : List UInt8) : (Lib.byteCells x).length = x.length := Lib.byteCells_length x
end Go.Proofs.Ytonoalbhpligfaa.TSpecH

import Derived.Lib.RuneBytes
import Derived.Test.YthkpbhgbmagaeaaGreatDoorP00
import Derived.Test.YthkpbhgbmagaeaaGreatDoorP01
import Derived.Test.YthkpbhgbmagaeaaGreatDoorP03
namespace Go.Proofs.YthkpbhgbmagaeaaGreatDoor.Spec
open Go.RowKit Go.Proofs.YthkpbhgbmagaeaaGreatDoor.Base Go.Proofs.YthkpbhgbmagaeaaGreatDoor.UBase Go.Proofs.YthkpbhgbmagaeaaGreatDoor.Sums Go.Proofs.YthkpbhgbmagaeaaGreatDoor.Nums
set_option linter.unusedVariables false
/-- A fault: its number, its place. -/
abbrev F := Nat × Nat
def isb (c : Nat) : Bool := decide (c = 32) || (decide (c = 9) || (decide (c = 10) || decide (c = 13)))
/-- Past blanks. -/
def blk (s : ByteArray) (i : Nat) : Nat := if i < s.size ∧ isb (at' s i) = true then blk s (i + 1) else i
 termination_by s.size - i
 decreasing_by omega
/-- Past digits. -/
def dgs (s : ByteArray) (i : Nat) : Nat := if i < s.size ∧ dig (at' s i) = true then dgs s (i + 1) else i
 termination_by s.size - i
 decreasing_by omega
/-- Just these bytes. -/
def wd (s : ByteArray) : List Nat → Nat → Except F Nat
 | [], i => .ok i
 | c :: cs, i => if at' s i = c then wd s cs (i + 1) else .error (600, i)
/-- Behind a minus. -/
def sgn (s : ByteArray) (i : Nat) : Nat := if at' s i = 45 then i + 1 else i
def rd (s : ByteArray) (i j : Nat) : Except F (Int × Nat) := if perr (bs (s.extract i j)) = 0 then .ok (pnum (bs (s.extract i j)), j) else .error (601, i)
def nm (s : ByteArray) (i : Nat) : Except F (Int × Nat) :=
 if dig (at' s (sgn s i)) = false then .error (600, sgn s i)
 else if at' s (sgn s i) = 48 then (if i < sgn s i then .error (600, sgn s i) else if dig (at' s (i + 1)) = true then .error (600, i + 1) else .ok (0, i + 1))
 else rd s i (dgs s (sgn s i))
/-- Hex digits. -/
def hxv (c : Nat) : Nat := if c ≤ 57 then c - 48 else if 97 ≤ c then c - 87 else c - 55
def hxd (c : Nat) : Bool := dig c || ((decide (97 ≤ c) && decide (c ≤ 102)) || (decide (65 ≤ c) && decide (c ≤ 70)))
def hcn (s : ByteArray) : Nat → Nat → Nat
 | 0, _ => 0
 | n + 1, i => if hxd (at' s i) = true then hcn s n (i + 1) + 1 else 0
def hvl (s : ByteArray) (i : Nat) : Nat := 4096 * hxv (at' s i) + 256 * hxv (at' s (i + 1)) + 16 * hxv (at' s (i + 2)) + hxv (at' s (i + 3))
def low (s : ByteArray) (i : Nat) : Bool := decide (at' s i = 92) && (decide (at' s (i + 1) = 117) && (decide (hcn s 4 (i + 2) = 4) && (decide (56320 ≤ hvl s (i + 2)) && decide (hvl s (i + 2) ≤ 57343))))
/-- The digits of an escape that begins at i. -/
def unt (s : ByteArray) (i : Nat) : Except F (Nat × Nat) :=
 if hcn s 4 (i + 2) < 4 then .error (600, i + 2 + hcn s 4 (i + 2))
 else if hvl s (i + 2) < 55296 ∨ 57343 < hvl s (i + 2) then .ok (hvl s (i + 2), i + 6)
 else if hvl s (i + 2) < 56320 ∧ low s (i + 6) = true then .ok (65536 + (hvl s (i + 2) - 55296) * 1024 + (hvl s (i + 8) - 56320), i + 12)
 else .error (600, i)
/-- What a letter behind a backslash stands for. -/
def ltr (c : Nat) : Option Nat :=
 if c = 34 then some 34 else if c = 92 then some 92 else if c = 47 then some 47 else if c = 98 then some 8 else if c = 102 then some 12
 else if c = 110 then some 10 else if c = 114 then some 13 else if c = 116 then some 9 else none
def esc (s : ByteArray) (i : Nat) : Except F (Nat × Nat) :=
 if at' s (i + 1) = 117 then unt s i
 else match ltr (at' s (i + 1)) with
  | some x => .ok (x, i + 2)
  | none => .error (600, i + 1)
/-- One character of a text: its number, the place behind it. -/
def chr (s : ByteArray) (i : Nat) : Except F (Nat × Nat) :=
 if at' s i = 92 then esc s i
 else if at' s i < 32 ∨ len s i = 0 then .error (600, i)
 else .ok ((Utf8.decode s i).1, i + len s i)
/-- The characters of a text up to its end. -/
def txl (s : ByteArray) : Nat → Nat → List UInt8 → Except F (List UInt8 × Nat)
 | 0, i, _ => .error (600, i)
 | f + 1, i, acc => if at' s i = 34 then .ok (acc, i + 1) else match chr s i with
  | .error e => .error e
  | .ok (x, j) => txl s f j (acc ++ Lib.encodeRune x)
def txt (s : ByteArray) (i : Nat) : Except F (ByteArray × Nat) :=
 if at' s i = 34 then match txl s (s.size + 1) (i + 1) [] with
  | .error e => .error e
  | .ok (L, j) => if 4096 < L.length then .error (605, i) else .ok (⟨L.toArray⟩, j)
 else .error (600, i)
/-- A text among others. -/
def has (t : ByteArray) (ns : List ByteArray) : Bool := ns.any fun x => x.toList == t.toList
abbrev V := Nat → Nat → Except F (C × Nat × Nat)
/-- The elements of a list, from the first byte of one on. -/
def lst (v : V) (s : ByteArray) : Nat → Nat → Nat → List C → Except F (List C × Nat × Nat)
 | 0, i, _, _ => .error (600, i)
 | f + 1, i, b, acc => match v i b with
  | .error e => .error e
  | .ok (c, j, b') => if at' s (blk s j) = 93 then .ok (acc ++ [c], blk s j + 1, b')
   else if at' s (blk s j) = 44 then lst v s f (blk s (blk s j + 1)) b' (acc ++ [c])
   else .error (600, blk s j)
/-- The pairs of a record. -/
def rcd (v : V) (s : ByteArray) : Nat → Nat → Nat → List ByteArray → List C → Except F (List ByteArray × List C × Nat × Nat)
 | 0, i, _, _, _ => .error (600, i)
 | f + 1, i, b, ns, acc => match txt s i with
  | .error e => .error e
  | .ok (t, j) => if has t ns = true then .error (602, i)
   else if at' s (blk s j) = 58 then match v (blk s j + 1) b with
    | .error e => .error e
    | .ok (c, j, b') => if at' s (blk s j) = 125 then .ok (ns ++ [t], acc ++ [c], blk s j + 1, b')
     else if at' s (blk s j) = 44 then rcd v s f (blk s (blk s j + 1)) b' (ns ++ [t]) (acc ++ [c])
     else .error (600, blk s j)
   else .error (600, blk s j)
def beg (c : Nat) : Bool := decide (c = 110) || (decide (c = 116) || (decide (c = 102) || (decide (c = 45) || (dig c || (decide (c = 34) || (decide (c = 91) || decide (c = 123)))))))
def lis (v : V) (s : ByteArray) (i b : Nat) : Except F (C × Nat × Nat) :=
 if at' s (blk s (i + 1)) = 93 then .ok (.mk 5 false 0 ⟨#[]⟩ [] [], blk s (i + 1) + 1, b)
 else match lst v s (s.size + 1) (blk s (i + 1)) b [] with
  | .error e => .error e
  | .ok (l, j, b') => .ok (.mk 5 false 0 ⟨#[]⟩ [] l, j, b')
def rec (v : V) (s : ByteArray) (i b : Nat) : Except F (C × Nat × Nat) :=
 if at' s (blk s (i + 1)) = 125 then .ok (.mk 6 false 0 ⟨#[]⟩ [] [], blk s (i + 1) + 1, b)
 else match rcd v s (s.size + 1) (blk s (i + 1)) b [] [] with
  | .error e => .error e
  | .ok (n, l, j, b') => .ok (.mk 6 false 0 ⟨#[]⟩ n l, j, b')
/-- A value at a byte that begins one. -/
def one (v : V) (s : ByteArray) (i b : Nat) : Except F (C × Nat × Nat) :=
 if at' s i = 110 then match wd s [110, 117, 108, 108] i with
  | .error e => .error e
  | .ok j => .ok (.mk 1 false 0 ⟨#[]⟩ [] [], j, b)
 else if at' s i = 116 then match wd s [116, 114, 117, 101] i with
  | .error e => .error e
  | .ok j => .ok (.mk 2 true 0 ⟨#[]⟩ [] [], j, b)
 else if at' s i = 102 then match wd s [102, 97, 108, 115, 101] i with
  | .error e => .error e
  | .ok j => .ok (.mk 2 false 0 ⟨#[]⟩ [] [], j, b)
 else if at' s i = 34 then match txt s i with
  | .error e => .error e
  | .ok (t, j) => .ok (.mk 4 false 0 t [] [], j, b)
 else if at' s i = 91 then lis v s i b
 else if at' s i = 123 then rec v s i b
 else match nm s i with
  | .error e => .error e
  | .ok (x, j) => .ok (.mk 3 false x ⟨#[]⟩ [] [], j, b)
/-- A value, of at most so many levels, from a place on, so many have begun. -/
def vl (s : ByteArray) : Nat → V
 | 0, i, _ => if beg (at' s (blk s i)) = true then .error (603, blk s i) else .error (600, blk s i)
 | n + 1, i, b => if beg (at' s (blk s i)) = true then (if 16384 ≤ b then .error (604, blk s i) else one (vl s n) s (blk s i) (b + 1)) else .error (600, blk s i)
def prs (s : ByteArray) : Except F C :=
 if 65536 < s.size then .error (605, 0) else match vl s 24 0 0 with
 | .error e => .error e
 | .ok (c, j, _) => if blk s j < s.size then .error (600, blk s j) else .ok c
/-- A byte of a text as it is written. -/
def hxc (n : Nat) : UInt8 := if n < 10 then UInt8.ofNat (48 + n) else UInt8.ofNat (87 + n)
def qb (c : UInt8) : List UInt8 :=
 if c = 34 then [92, 34] else if c = 92 then [92, 92] else if c = 8 then [92, 98] else if c = 12 then [92, 102] else if c = 10 then [92, 110]
 else if c = 13 then [92, 114] else if c = 9 then [92, 116] else if c.toNat < 32 then [92, 117, 48, 48, hxc (c.toNat / 16), hxc (c.toNat % 16)] else [c]
def qt (s : ByteArray) : List UInt8 := 34 :: (s.data.toList.flatMap qb ++ [34])
def jn : List (List UInt8) → List UInt8
 | [] => []
 | x :: r => match r with
  | [] => x
  | _ :: _ => x ++ 44 :: jn r
def bd (k : Int) (b : Bool) (i : Int) (s : ByteArray) (n : List ByteArray) (ps : List (List UInt8)) : List UInt8 :=
 if k = 1 then [110, 117, 108, 108] else if k = 2 then (if b then [116, 114, 117, 101] else [102, 97, 108, 115, 101]) else if k = 3 then Lib.itoa i
 else if k = 4 then qt s else if k = 5 then 91 :: (jn ps ++ [93]) else 123 :: (jn (List.zipWith (fun t p => qt t ++ 58 :: p) n ps) ++ [125])
def pvL : List C → List (List UInt8)
 | [] => []
 | .mk k b i s n l :: cs => bd k b i s n (pvL l) :: pvL cs
def pv : C → List UInt8
 | .mk k b i s n l => bd k b i s n (pvL l)
theorem has_iff {t : ByteArray} {ns : List ByteArray} : has t ns = true ↔ t ∈ ns := by
 unfold has
 rw [List.any_eq_true]
 constructor
 ·rintro ⟨x, hx, he⟩
  have : x = t := by
   rw [ByteArray.toList_eq, ByteArray.toList_eq] at he
   apply ByteArray.ext
   exact Array.toList_inj.1 (by simpa using he)
  exact this ▸ hx
 ·intro h
  exact ⟨t, h, by simp⟩
theorem blk_step {s : ByteArray} {i : Nat} (h : i < s.size) (hb : isb (at' s i) = true) : blk s i = blk s (i + 1) := by rw [blk, if_pos ⟨h, hb⟩]
theorem blk_stop {s : ByteArray} {i : Nat} (h : isb (at' s i) = false) : blk s i = i := by rw [blk, if_neg (by simp [h])]
theorem blk_end {s : ByteArray} {i : Nat} (h : ¬ i < s.size) : blk s i = i := by rw [blk, if_neg (by simp [h])]
theorem dgs_step {s : ByteArray} {i : Nat} (h : i < s.size) (hb : dig (at' s i) = true) : dgs s i = dgs s (i + 1) := by rw [dgs, if_pos ⟨h, hb⟩]
theorem dgs_stop {s : ByteArray} {i : Nat} (h : dig (at' s i) = false) : dgs s i = i := by rw [dgs, if_neg (by simp [h])]
theorem dgs_end {s : ByteArray} {i : Nat} (h : ¬ i < s.size) : dgs s i = i := by rw [dgs, if_neg (by simp [h])]
theorem at_in {s : ByteArray} {i : Nat} (h : at' s i ≠ 0) : i < s.size := Decidable.of_not_not fun hn => h (at_out s i hn)
theorem blk_le (s : ByteArray) (n : Nat) : ∀ i, s.size - i ≤ n → i ≤ blk s i ∧ (i ≤ s.size → blk s i ≤ s.size) ∧ isb (at' s (blk s i)) = false := by
 induction n with
 | zero => intro i h; rw [blk_end (by omega)]; exact ⟨Nat.le_refl _, fun h => h, by rw [at_out s i (by omega)]; rfl⟩
 | succ n ih =>
  intro i h
  by_cases hi : i < s.size
  ·cases hb : isb (at' s i) with
   | true => rw [blk_step hi hb]; have := ih (i + 1) (by omega); exact ⟨by omega, fun _ => this.2.1 (by omega), this.2.2⟩
   | false => rw [blk_stop hb]; exact ⟨Nat.le_refl _, fun h => h, hb⟩
  ·rw [blk_end hi]; exact ⟨Nat.le_refl _, fun h => h, by rw [at_out s i hi]; rfl⟩
theorem blk_ge (s : ByteArray) (i : Nat) : i ≤ blk s i := (blk_le s _ i (Nat.le_refl _)).1
theorem blk_in {s : ByteArray} {i : Nat} (h : i ≤ s.size) : blk s i ≤ s.size := (blk_le s _ i (Nat.le_refl _)).2.1 h
theorem blk_no (s : ByteArray) (i : Nat) : isb (at' s (blk s i)) = false := (blk_le s _ i (Nat.le_refl _)).2.2
theorem blk_blk (s : ByteArray) (i : Nat) : blk s (blk s i) = blk s i := blk_stop (blk_no s i)
theorem dgs_le (s : ByteArray) (n : Nat) : ∀ i, s.size - i ≤ n → i ≤ dgs s i ∧ (i ≤ s.size → dgs s i ≤ s.size) ∧ dig (at' s (dgs s i)) = false := by
 induction n with
 | zero => intro i h; rw [dgs_end (by omega)]; exact ⟨Nat.le_refl _, fun h => h, by rw [at_out s i (by omega)]; rfl⟩
 | succ n ih =>
  intro i h
  by_cases hi : i < s.size
  ·cases hb : dig (at' s i) with
   | true => rw [dgs_step hi hb]; have := ih (i + 1) (by omega); exact ⟨by omega, fun _ => this.2.1 (by omega), this.2.2⟩
   | false => rw [dgs_stop hb]; exact ⟨Nat.le_refl _, fun h => h, hb⟩
  ·rw [dgs_end hi]; exact ⟨Nat.le_refl _, fun h => h, by rw [at_out s i hi]; rfl⟩
theorem dgs_ge (s : ByteArray) (i : Nat) : i ≤ dgs s i := (dgs_le s _ i (Nat.le_refl _)).1
theorem dgs_in {s : ByteArray} {i : Nat} (h : i ≤ s.size) : dgs s i ≤ s.size := (dgs_le s _ i (Nat.le_refl _)).2.1 h
end Go.Proofs.YthkpbhgbmagaeaaGreatDoor.Spec

import Derived.Lib.RuneBytes
import Derived.LoopN
import Derived.LoopTactic
import Derived.Maps.AppendAt
import Derived.Test.YtnoohlmlpijhaaaGreatDoorPZ00
import Derived.Test.YtnoohlmlpijhaaaGreatDoorPZ01
import Derived.Test.YtnoohlmlpijhaaaGreatDoorPZ03
namespace Go.Proofs.YtnoohlmlpijhaaaGreatDoor.EPure
open Go.Proofs.YtnoohlmlpijhaaaGreatDoor.UBase
set_option linter.unusedVariables false
/-- An expression: its Op, Int, Str, Kids. -/
structure Ex where
  mk ::
  (o0 : Int) (i0 : Int) (s0 : ByteArray) (l0 : List Ex)
def Ex.o : Ex → Int | .mk o _ _ _ => o
def Ex.i : Ex → Int | .mk _ i _ _ => i
def Ex.s : Ex → ByteArray | .mk _ _ s _ => s
def Ex.l : Ex → List Ex | .mk _ _ _ l => l
/-- A fault: its code and its place. -/
abbrev F := Nat × Nat
/-- A token: its kind (0 the end, 1 a number, 2 a text, 3 a name, 4 a sign), text, number, place. -/
structure Tk where
  k : Nat
  t : ByteArray
  n : Int
  a : Nat
def isb (c : Nat) : Bool := c == 32 || (c == 9 || (c == 10 || c == 13))
def dig (c : Nat) : Bool := decide (48 ≤ c) && decide (c ≤ 57)
def let' (c : Nat) : Bool := decide (97 ≤ c) && decide (c ≤ 122)
def wrd (c : Nat) : Bool := let' c || (dig c || c == 95)
/-- The first place from i on whose byte is none of those. -/
def sk (p : Nat → Bool) (s : ByteArray) : Nat → Nat → Nat
  | 0, i => i
  | f + 1, i => if i < s.size ∧ p (at' s i) = true then sk p s f (i + 1) else i
def skp (p : Nat → Bool) (s : ByteArray) (i : Nat) : Nat := sk p s (s.size - i) i
/-- The signs, the long ones first. -/
def signs : List (List UInt8) := [[124, 124], [38, 38], [61, 61], [33, 61], [60, 61], [62, 61], [60, 60], [62, 62], [63], [58], [60], [62], [124], [94], [38], [126], [43], [45], [42], [47], [37], [33], [46], [91], [93], [40], [41]]
def pre (s : ByteArray) (i : Nat) (x : List UInt8) : Bool := decide (i + x.length ≤ s.size) && ((s.data.toList.drop i).take x.length == x)
def sgn (s : ByteArray) (i : Nat) : List (List UInt8) → Except F (ByteArray × Nat)
  | [] => .error (1000, i)
  | x :: l => if pre s i x = true then .ok (⟨x.toArray⟩, i + x.length) else sgn s i l
/-- What stands behind a backslash. -/
def esc (c : Nat) : Option Nat := if c = 39 then some 39 else if c = 92 then some 92 else if c = 125 then some 125 else if c = 110 then some 10 else none
/-- A character of a text: its bytes and the place behind it. -/
def chr (s : ByteArray) (i : Nat) : Except F (List UInt8 × Nat) :=
  if s.size ≤ i then .error (1000, i)
  else if at' s i < 32 then .error (1000, i)
  else if at' s i = 92 then
    if s.size ≤ i + 1 then .error (1000, i + 1)
    else match esc (at' s (i + 1)) with
      | none => .error (1000, i + 1)
      | some c => .ok ([UInt8.ofNat c], i + 2)
  else if len s i = 0 then .error (1000, i)
  else .ok ((s.data.toList.drop i).take (len s i), i + len s i)
def txl (s : ByteArray) : Nat → Nat → List UInt8 → Except F (List UInt8 × Nat)
  | 0, i, _ => .error (1000, i)
  | f + 1, i, acc => if s.size ≤ i then .error (1000, i) else if at' s i = 39 then .ok (acc, i + 1) else match chr s i with
    | .error e => .error e
    | .ok (x, j) => txl s f j (acc ++ x)
def cut (s : ByteArray) (i j : Nat) : ByteArray := s.extract i j
/-- The token that begins at i, and the place behind it. -/
def scan (s : ByteArray) (i : Nat) : Except F (Tk × Nat) :=
  if s.size ≤ i then .ok (⟨0, ⟨#[]⟩, 0, i⟩, i)
  else if at' s i = 39 then match txl s (s.size + 1) (i + 1) [] with
    | .error e => .error e
    | .ok (l, j) => if 4096 < l.length then .error (1002, i) else .ok (⟨2, ⟨l.toArray⟩, 0, i⟩, j)
  else if at' s i = 48 then .ok (⟨1, ⟨#[]⟩, 0, i⟩, i + 1)
  else if dig (at' s i) = true then
    if Nums.perr (Sums.bs (cut s i (skp dig s i))) = 0 then .ok (⟨1, ⟨#[]⟩, Nums.pnum (Sums.bs (cut s i (skp dig s i))), i⟩, skp dig s i) else .error (1000, i)
  else if let' (at' s i) = true then
    if skp wrd s i - i ≤ 32 then .ok (⟨3, cut s i (skp wrd s i), 0, i⟩, skp wrd s i) else .error (1000, i)
  else match sgn s i signs with
    | .error e => .error e
    | .ok (x, j) => .ok (⟨4, x, 0, i⟩, j)
/-- The reader: the next token, the place behind it, how many have been read. -/
structure Sr where
  tk : Tk
  a : Nat
  r : Nat
def adv (s : ByteArray) (a r : Nat) : Except F Sr := match scan s (skp isb s a) with
  | .error e => .error e
  | .ok (t, j) => if t.k = 0 then .ok ⟨t, j, r⟩ else if r = 512 then .error (1002, t.a) else .ok ⟨t, j, r + 1⟩
def is (t : Tk) (x : List UInt8) : Bool := t.k == 4 && t.t.data.toList == x
def ends (t : Tk) : F := (1000, t.a)
def tak (s : ByteArray) (x : List UInt8) (g : Sr) : Except F Sr := if is g.tk x = true then adv s g.a g.r else .error (ends g.tk)
/-- The levels with two operands. -/
def lvs : List (List (List UInt8 × Int)) := [[([124, 124], 30)], [([38, 38], 29)], [([61, 61], 27), ([33, 61], 28)], [([60], 23), ([60, 61], 24), ([62], 25), ([62, 61], 26)], [([124], 22)], [([94], 21)], [([38], 20)], [([60, 60], 18), ([62, 62], 19)], [([126], 17)], [([43], 15), ([45], 16)], [([42], 12), ([47], 13), ([37], 14)]]
/-- The Op of a level whose sign this token is. -/
def opOf (t : Tk) : List (List UInt8 × Int) → Option Int
  | [] => none
  | (x, o) :: l => if is t x = true then some o else opOf t l
def wordOp (x : List UInt8) : Option Int := if x = [110, 117, 108, 108] then some 1 else if x = [102, 97, 108, 115, 101] then some 2 else if x = [116, 114, 117, 101] then some 3 else none
def callOf (x : List UInt8) : Option Int := if x = [108, 101, 110] then some 1 else if x = [115, 116, 114] then some 2 else if x = [105, 56] then some 3 else if x = [117, 56] then some 4 else if x = [105, 49, 54] then some 5 else if x = [117, 49, 54] then some 6 else if x = [105, 51, 50] then some 7 else if x = [117, 51, 50] then some 8 else none
abbrev A (α : Type) := Except F (α × Sr)
def nd (o : Int) (l : List Ex) : Ex := .mk o 0 ⟨#[]⟩ l
abbrev P := Sr → A Ex
/-- Where nothing may stand, so deep it lies. -/
def ded : P := fun g => if g.tk.k = 0 then .error (1000, g.tk.a) else .error (1001, g.tk.a)
/-- Behind an operand of level k; q reads what is tighter. -/
def more (s : ByteArray) (k : Nat) (q : P) : Nat → Ex → P
  | 0, _, g => .error (ends g.tk)
  | f + 1, l, g => match opOf g.tk (lvs.getD k []) with
    | none => .ok (l, g)
    | some o => match adv s g.a g.r with
      | .error e => .error e
      | .ok g1 => match q g1 with
        | .error e => .error e
        | .ok (r, g2) => more s k q f (nd o [l, r]) g2
/-- The j tightest levels, over what has a sign or none. -/
def lev (s : ByteArray) (q : P) : Nat → P
  | 0 => q
  | j + 1 => fun g => match lev s q j g with
    | .error e => .error e
    | .ok (l, g1) => more s (10 - j) (lev s q j) (2 * s.size + 2) l g1
/-- An if; S: what has a sign, C: an if that lies deeper. -/
def chc (s : ByteArray) (S C : P) : P := fun g => match lev s S 11 g with
  | .error e => .error e
  | .ok (t, g1) => if is g1.tk [63] = true then match adv s g1.a g1.r with
      | .error e => .error e
      | .ok g2 => match C g2 with
        | .error e => .error e
        | .ok (a, g3) => match tak s [58] g3 with
          | .error e => .error e
          | .ok g4 => match C g4 with
            | .error e => .error e
            | .ok (b, g5) => .ok (nd 31 [t, a, b], g5)
    else .ok (t, g1)
def btw (s : ByteArray) (C : P) (o c : List UInt8) : P := fun g => match tak s o g with
  | .error e => .error e
  | .ok g1 => match C g1 with
    | .error e => .error e
    | .ok (x, g2) => match tak s c g2 with
      | .error e => .error e
      | .ok g3 => .ok (x, g3)
/-- What stands behind a word. -/
def prt (s : ByteArray) (C : P) : Nat → Ex → P
  | 0, _, g => .error (ends g.tk)
  | f + 1, x, g => if is g.tk [46] = true then match adv s g.a g.r with
      | .error e => .error e
      | .ok g1 => if g1.tk.k = 3 then match adv s g1.a g1.r with
          | .error e => .error e
          | .ok g2 => prt s C f (.mk 7 0 g1.tk.t [x]) g2
        else .error (ends g1.tk)
    else if is g.tk [91] = true then match btw s C [91] [93] g with
      | .error e => .error e
      | .ok (y, g1) => prt s C f (nd 8 [x, y]) g1
    else .ok (x, g)
/-- What a name says. -/
def nmd (s : ByteArray) (C : P) (t : ByteArray) : P := fun g1 => match wordOp t.data.toList with
  | some o => .ok (nd o [], g1)
  | none => match callOf t.data.toList with
    | some c => if is g1.tk [40] = true then match btw s C [40] [41] g1 with
        | .error e => .error e
        | .ok (x, g2) => .ok (.mk 9 c ⟨#[]⟩ [x], g2)
      else .ok (.mk 6 0 t [], g1)
    | none => .ok (.mk 6 0 t [], g1)
def wor (s : ByteArray) (C : P) : P := fun g => if g.tk.k = 1 then match adv s g.a g.r with
    | .error e => .error e
    | .ok g1 => .ok (.mk 4 g.tk.n ⟨#[]⟩ [], g1)
  else if g.tk.k = 2 then match adv s g.a g.r with
    | .error e => .error e
    | .ok g1 => .ok (.mk 5 0 g.tk.t [], g1)
  else if g.tk.k = 3 then match adv s g.a g.r with
    | .error e => .error e
    | .ok g1 => nmd s C g.tk.t g1
  else btw s C [40] [41] g
def par (s : ByteArray) (C : P) : P := fun g => match wor s C g with
  | .error e => .error e
  | .ok (x, g1) => prt s C (2 * s.size + 2) x g1
/-- What has a sign or none, where it may still stand; S, C: what lies deeper. -/
def sgd (s : ByteArray) (S C : P) : P := fun g => if is g.tk [45] = true then match adv s g.a g.r with
    | .error e => .error e
    | .ok g1 => match S g1 with
      | .error e => .error e
      | .ok (x, g2) => .ok (nd 10 [x], g2)
  else if is g.tk [33] = true then match adv s g.a g.r with
    | .error e => .error e
    | .ok g1 => match S g1 with
      | .error e => .error e
      | .ok (x, g2) => .ok (nd 11 [x], g2)
  else par s C g
/-- What has a sign, and an if, where m levels of nesting are left. -/
def lv2 (s : ByteArray) : Nat → P × P
  | 0 => (ded, chc s ded ded)
  | m + 1 => (sgd s (lv2 s m).1 (lv2 s m).2, chc s (sgd s (lv2 s m).1 (lv2 s m).2) (lv2 s m).2)
/-- What Parse answers. -/
def prs (s : ByteArray) : Except F Ex := match adv s 0 0 with
  | .error e => .error e
  | .ok g => match (lv2 s 32).2 g with
    | .error e => .error e
    | .ok (x, g1) => if g1.tk.k = 0 then .ok x else .error (ends g1.tk)
end Go.Proofs.YtnoohlmlpijhaaaGreatDoor.EPure
namespace Go.Proofs.YtnoohlmlpijhaaaGreatDoor.Spec
open Go.RowKit Go.Proofs.YtnoohlmlpijhaaaGreatDoor.Base Go.Proofs.YtnoohlmlpijhaaaGreatDoor.UBase Go.Proofs.YtnoohlmlpijhaaaGreatDoor.Sums Go.Proofs.YtnoohlmlpijhaaaGreatDoor.Nums
set_option linter.unusedVariables false
/-- A fault: its number, its place. -/
abbrev F := Nat × Nat
def isb (c : Nat) : Bool := decide (c = 32) || (decide (c = 9) || (decide (c = 10) || decide (c = 13)))
/-- Past blanks. -/
def blk (s : ByteArray) (i : Nat) : Nat := if i < s.size ∧ isb (at' s i) = true then blk s (i + 1) else i
  termination_by s.size - i
  decreasing_by omega
/-- Past digits. -/
def dgs (s : ByteArray) (i : Nat) : Nat := if i < s.size ∧ dig (at' s i) = true then dgs s (i + 1) else i
  termination_by s.size - i
  decreasing_by omega
/-- Just these bytes. -/
def wd (s : ByteArray) : List Nat → Nat → Except F Nat
  | [], i => .ok i
  | c :: cs, i => if at' s i = c then wd s cs (i + 1) else .error (600, i)
/-- Behind a minus. -/
def sgn (s : ByteArray) (i : Nat) : Nat := if at' s i = 45 then i + 1 else i
def rd (s : ByteArray) (i j : Nat) : Except F (Int × Nat) := if perr (bs (s.extract i j)) = 0 then .ok (pnum (bs (s.extract i j)), j) else .error (601, i)
def nm (s : ByteArray) (i : Nat) : Except F (Int × Nat) :=
  if dig (at' s (sgn s i)) = false then .error (600, sgn s i)
  else if at' s (sgn s i) = 48 then (if i < sgn s i then .error (600, sgn s i) else if dig (at' s (i + 1)) = true then .error (600, i + 1) else .ok (0, i + 1))
  else rd s i (dgs s (sgn s i))
/-- Hex digits. -/
def hxv (c : Nat) : Nat := if c ≤ 57 then c - 48 else if 97 ≤ c then c - 87 else c - 55
def hxd (c : Nat) : Bool := dig c || ((decide (97 ≤ c) && decide (c ≤ 102)) || (decide (65 ≤ c) && decide (c ≤ 70)))
def hcn (s : ByteArray) : Nat → Nat → Nat
  | 0, _ => 0
  | n + 1, i => if hxd (at' s i) = true then hcn s n (i + 1) + 1 else 0
def hvl (s : ByteArray) (i : Nat) : Nat := 4096 * hxv (at' s i) + 256 * hxv (at' s (i + 1)) + 16 * hxv (at' s (i + 2)) + hxv (at' s (i + 3))
def low (s : ByteArray) (i : Nat) : Bool := decide (at' s i = 92) && (decide (at' s (i + 1) = 117) && (decide (hcn s 4 (i + 2) = 4) && (decide (56320 ≤ hvl s (i + 2)) && decide (hvl s (i + 2) ≤ 57343))))
/-- The digits of an escape that begins at i. -/
def unt (s : ByteArray) (i : Nat) : Except F (Nat × Nat) :=
  if hcn s 4 (i + 2) < 4 then .error (600, i + 2 + hcn s 4 (i + 2))
  else if hvl s (i + 2) < 55296 ∨ 57343 < hvl s (i + 2) then .ok (hvl s (i + 2), i + 6)
  else if hvl s (i + 2) < 56320 ∧ low s (i + 6) = true then .ok (65536 + (hvl s (i + 2) - 55296) * 1024 + (hvl s (i + 8) - 56320), i + 12)
  else .error (600, i)
/-- What a letter behind a backslash stands for. -/
def ltr (c : Nat) : Option Nat :=
  if c = 34 then some 34 else if c = 92 then some 92 else if c = 47 then some 47 else if c = 98 then some 8 else if c = 102 then some 12
  else if c = 110 then some 10 else if c = 114 then some 13 else if c = 116 then some 9 else none
def esc (s : ByteArray) (i : Nat) : Except F (Nat × Nat) :=
  if at' s (i + 1) = 117 then unt s i
  else match ltr (at' s (i + 1)) with
    | some x => .ok (x, i + 2)
    | none => .error (600, i + 1)
/-- One character of a text: its number, the place behind it. -/
def chr (s : ByteArray) (i : Nat) : Except F (Nat × Nat) :=
  if at' s i = 92 then esc s i
  else if at' s i < 32 ∨ len s i = 0 then .error (600, i)
  else .ok ((Utf8.decode s i).1, i + len s i)
/-- The characters of a text up to its end. -/
def txl (s : ByteArray) : Nat → Nat → List UInt8 → Except F (List UInt8 × Nat)
  | 0, i, _ => .error (600, i)
  | f + 1, i, acc => if at' s i = 34 then .ok (acc, i + 1) else match chr s i with
    | .error e => .error e
    | .ok (x, j) => txl s f j (acc ++ Lib.encodeRune x)
def txt (s : ByteArray) (i : Nat) : Except F (ByteArray × Nat) :=
  if at' s i = 34 then match txl s (s.size + 1) (i + 1) [] with
    | .error e => .error e
    | .ok (L, j) => if 4096 < L.length then .error (605, i) else .ok (⟨L.toArray⟩, j)
  else .error (600, i)
/-- A text among others. -/
def has (t : ByteArray) (ns : List ByteArray) : Bool := ns.any fun x => x.toList == t.toList
abbrev V := Nat → Nat → Except F (C × Nat × Nat)
/-- The elements of a list, from the first byte of one on. -/
def lst (v : V) (s : ByteArray) : Nat → Nat → Nat → List C → Except F (List C × Nat × Nat)
  | 0, i, _, _ => .error (600, i)
  | f + 1, i, b, acc => match v i b with
    | .error e => .error e
    | .ok (c, j, b') => if at' s (blk s j) = 93 then .ok (acc ++ [c], blk s j + 1, b')
      else if at' s (blk s j) = 44 then lst v s f (blk s (blk s j + 1)) b' (acc ++ [c])
      else .error (600, blk s j)
/-- The pairs of a record. -/
def rcd (v : V) (s : ByteArray) : Nat → Nat → Nat → List ByteArray → List C → Except F (List ByteArray × List C × Nat × Nat)
  | 0, i, _, _, _ => .error (600, i)
  | f + 1, i, b, ns, acc => match txt s i with
    | .error e => .error e
    | .ok (t, j) => if has t ns = true then .error (602, i)
      else if at' s (blk s j) = 58 then match v (blk s j + 1) b with
        | .error e => .error e
        | .ok (c, j, b') => if at' s (blk s j) = 125 then .ok (ns ++ [t], acc ++ [c], blk s j + 1, b')
          else if at' s (blk s j) = 44 then rcd v s f (blk s (blk s j + 1)) b' (ns ++ [t]) (acc ++ [c])
          else .error (600, blk s j)
      else .error (600, blk s j)
def beg (c : Nat) : Bool := decide (c = 110) || (decide (c = 116) || (decide (c = 102) || (decide (c = 45) || (dig c || (decide (c = 34) || (decide (c = 91) || decide (c = 123)))))))
def lis (v : V) (s : ByteArray) (i b : Nat) : Except F (C × Nat × Nat) :=
  if at' s (blk s (i + 1)) = 93 then .ok (.mk 5 false 0 ⟨#[]⟩ [] [], blk s (i + 1) + 1, b)
  else match lst v s (s.size + 1) (blk s (i + 1)) b [] with
    | .error e => .error e
    | .ok (l, j, b') => .ok (.mk 5 false 0 ⟨#[]⟩ [] l, j, b')
def rec (v : V) (s : ByteArray) (i b : Nat) : Except F (C × Nat × Nat) :=
  if at' s (blk s (i + 1)) = 125 then .ok (.mk 6 false 0 ⟨#[]⟩ [] [], blk s (i + 1) + 1, b)
  else match rcd v s (s.size + 1) (blk s (i + 1)) b [] [] with
    | .error e => .error e
    | .ok (n, l, j, b') => .ok (.mk 6 false 0 ⟨#[]⟩ n l, j, b')
/-- A value at a byte that begins one. -/
def one (v : V) (s : ByteArray) (i b : Nat) : Except F (C × Nat × Nat) :=
  if at' s i = 110 then match wd s [110, 117, 108, 108] i with
    | .error e => .error e
    | .ok j => .ok (.mk 1 false 0 ⟨#[]⟩ [] [], j, b)
  else if at' s i = 116 then match wd s [116, 114, 117, 101] i with
    | .error e => .error e
    | .ok j => .ok (.mk 2 true 0 ⟨#[]⟩ [] [], j, b)
  else if at' s i = 102 then match wd s [102, 97, 108, 115, 101] i with
    | .error e => .error e
    | .ok j => .ok (.mk 2 false 0 ⟨#[]⟩ [] [], j, b)
  else if at' s i = 34 then match txt s i with
    | .error e => .error e
    | .ok (t, j) => .ok (.mk 4 false 0 t [] [], j, b)
  else if at' s i = 91 then lis v s i b
  else if at' s i = 123 then rec v s i b
  else match nm s i with
    | .error e => .error e
    | .ok (x, j) => .ok (.mk 3 false x ⟨#[]⟩ [] [], j, b)
/-- A value, of at most so many levels, from a place on, so many have begun. -/
def vl (s : ByteArray) : Nat → V
  | 0, i, _ => if beg (at' s (blk s i)) = true then .error (603, blk s i) else .error (600, blk s i)
  | n + 1, i, b => if beg (at' s (blk s i)) = true then (if 16384 ≤ b then .error (604, blk s i) else one (vl s n) s (blk s i) (b + 1)) else .error (600, blk s i)
def prs (s : ByteArray) : Except F C :=
  if 65536 < s.size then .error (605, 0) else match vl s 24 0 0 with
  | .error e => .error e
  | .ok (c, j, _) => if blk s j < s.size then .error (600, blk s j) else .ok c
/-- A byte of a text as it is written. -/
def hxc (n : Nat) : UInt8 := if n < 10 then UInt8.ofNat (48 + n) else UInt8.ofNat (87 + n)
def qb (c : UInt8) : List UInt8 :=
  if c = 34 then [92, 34] else if c = 92 then [92, 92] else if c = 8 then [92, 98] else if c = 12 then [92, 102] else if c = 10 then [92, 110]
  else if c = 13 then [92, 114] else if c = 9 then [92, 116] else if c.toNat < 32 then [92, 117, 48, 48, hxc (c.toNat / 16), hxc (c.toNat % 16)] else [c]
def qt (s : ByteArray) : List UInt8 := 34 :: (s.data.toList.flatMap qb ++ [34])
def jn : List (List UInt8) → List UInt8
  | [] => []
  | x :: r => match r with
    | [] => x
    | _ :: _ => x ++ 44 :: jn r
def bd (k : Int) (b : Bool) (i : Int) (s : ByteArray) (n : List ByteArray) (ps : List (List UInt8)) : List UInt8 :=
  if k = 1 then [110, 117, 108, 108] else if k = 2 then (if b then [116, 114, 117, 101] else [102, 97, 108, 115, 101]) else if k = 3 then Lib.itoa i
  else if k = 4 then qt s else if k = 5 then 91 :: (jn ps ++ [93]) else 123 :: (jn (List.zipWith (fun t p => qt t ++ 58 :: p) n ps) ++ [125])
def pvL : List C → List (List UInt8)
  | [] => []
  | .mk k b i s n l :: cs => bd k b i s n (pvL l) :: pvL cs
def pv : C → List UInt8
  | .mk k b i s n l => bd k b i s n (pvL l)
theorem has_iff {t : ByteArray} {ns : List ByteArray} : has t ns = true ↔ t ∈ ns := by
  unfold has
  rw [List.any_eq_true]
  constructor
  · rintro ⟨x, hx, he⟩
    have : x = t := by
      rw [ByteArray.toList_eq, ByteArray.toList_eq] at he
      apply ByteArray.ext
      exact Array.toList_inj.1 (by simpa using he)
    exact this ▸ hx
  · intro h
    exact ⟨t, h, by simp⟩
theorem blk_step {s : ByteArray} {i : Nat} (h : i < s.size) (hb : isb (at' s i) = true) : blk s i = blk s (i + 1) := by rw [blk, if_pos ⟨h, hb⟩]
theorem blk_stop {s : ByteArray} {i : Nat} (h : isb (at' s i) = false) : blk s i = i := by rw [blk, if_neg (by simp [h])]
theorem blk_end {s : ByteArray} {i : Nat} (h : ¬ i < s.size) : blk s i = i := by rw [blk, if_neg (by simp [h])]
theorem dgs_step {s : ByteArray} {i : Nat} (h : i < s.size) (hb : dig (at' s i) = true) : dgs s i = dgs s (i + 1) := by rw [dgs, if_pos ⟨h, hb⟩]
theorem dgs_stop {s : ByteArray} {i : Nat} (h : dig (at' s i) = false) : dgs s i = i := by rw [dgs, if_neg (by simp [h])]
theorem dgs_end {s : ByteArray} {i : Nat} (h : ¬ i < s.size) : dgs s i = i := by rw [dgs, if_neg (by simp [h])]
theorem at_in {s : ByteArray} {i : Nat} (h : at' s i ≠ 0) : i < s.size := Decidable.of_not_not fun hn => h (at_out s i hn)
theorem blk_le (s : ByteArray) (n : Nat) : ∀ i, s.size - i ≤ n → i ≤ blk s i ∧ (i ≤ s.size → blk s i ≤ s.size) ∧ isb (at' s (blk s i)) = false := by
  induction n with
  | zero => intro i h; rw [blk_end (by omega)]; exact ⟨Nat.le_refl _, fun h => h, by rw [at_out s i (by omega)]; rfl⟩
  | succ n ih =>
    intro i h
    by_cases hi : i < s.size
    · cases hb : isb (at' s i) with
      | true => rw [blk_step hi hb]; have := ih (i + 1) (by omega); exact ⟨by omega, fun _ => this.2.1 (by omega), this.2.2⟩
      | false => rw [blk_stop hb]; exact ⟨Nat.le_refl _, fun h => h, hb⟩
    · rw [blk_end hi]; exact ⟨Nat.le_refl _, fun h => h, by rw [at_out s i hi]; rfl⟩
theorem blk_ge (s : ByteArray) (i : Nat) : i ≤ blk s i := (blk_le s _ i (Nat.le_refl _)).1
theorem blk_in {s : ByteArray} {i : Nat} (h : i ≤ s.size) : blk s i ≤ s.size := (blk_le s _ i (Nat.le_refl _)).2.1 h
theorem blk_no (s : ByteArray) (i : Nat) : isb (at' s (blk s i)) = false := (blk_le s _ i (Nat.le_refl _)).2.2
theorem blk_blk (s : ByteArray) (i : Nat) : blk s (blk s i) = blk s i := blk_stop (blk_no s i)
theorem dgs_le (s : ByteArray) (n : Nat) : ∀ i, s.size - i ≤ n → i ≤ dgs s i ∧ (i ≤ s.size → dgs s i ≤ s.size) ∧ dig (at' s (dgs s i)) = false := by
  induction n with
  | zero => intro i h; rw [dgs_end (by omega)]; exact ⟨Nat.le_refl _, fun h => h, by rw [at_out s i (by omega)]; rfl⟩
  | succ n ih =>
    intro i h
    by_cases hi : i < s.size
    · cases hb : dig (at' s i) with
      | true => rw [dgs_step hi hb]; have := ih (i + 1) (by omega); exact ⟨by omega, fun _ => this.2.1 (by omega), this.2.2⟩
      | false => rw [dgs_stop hb]; exact ⟨Nat.le_refl _, fun h => h, hb⟩
    · rw [dgs_end hi]; exact ⟨Nat.le_refl _, fun h => h, by rw [at_out s i hi]; rfl⟩
theorem dgs_ge (s : ByteArray) (i : Nat) : i ≤ dgs s i := (dgs_le s _ i (Nat.le_refl _)).1
theorem dgs_in {s : ByteArray} {i : Nat} (h : i ≤ s.size) : dgs s i ≤ s.size := (dgs_le s _ i (Nat.le_refl _)).2.1 h
theorem dgs_no (s : ByteArray) (i : Nat) : dig (at' s (dgs s i)) = false := (dgs_le s _ i (Nat.le_refl _)).2.2
end Go.Proofs.YtnoohlmlpijhaaaGreatDoor.Spec
namespace Go.Proofs.YtnoohlmlpijhaaaGreatDoor.EDn
open Go.Proofs.YtnoohlmlpijhaaaGreatDoor.UBase Go.Proofs.YtnoohlmlpijhaaaGreatDoor.EPure
set_option linter.unusedVariables false
theorem sk_le (p : Nat → Bool) (s : ByteArray) : ∀ f i, i ≤ sk p s f i ∧ (i ≤ s.size → sk p s f i ≤ s.size)
  | 0, i => ⟨Nat.le_refl _, id⟩
  | f + 1, i => by
    rw [sk]
    by_cases h : i < s.size ∧ p (at' s i) = true
    · rw [if_pos h]
      have := sk_le p s f (i + 1)
      exact ⟨by omega, fun _ => this.2 (by omega)⟩
    · rw [if_neg h]
      exact ⟨Nat.le_refl _, id⟩
theorem skp_ge (p : Nat → Bool) (s : ByteArray) (i : Nat) : i ≤ skp p s i := (sk_le p s _ i).1
theorem skp_in {p : Nat → Bool} {s : ByteArray} {i : Nat} (h : i ≤ s.size) : skp p s i ≤ s.size := (sk_le p s _ i).2 h
theorem skp_lt {p : Nat → Bool} {s : ByteArray} {i : Nat} (h : i < s.size) (hp : p (at' s i) = true) : i < skp p s i := by
  unfold skp
  obtain ⟨f, hf⟩ : ∃ f, s.size - i = f + 1 := ⟨s.size - i - 1, by omega⟩
  rw [hf, sk, if_pos ⟨h, hp⟩]
  have := (sk_le p s f (i + 1)).1
  omega
theorem at_in {s : ByteArray} {i : Nat} (h : at' s i ≠ 0) : i < s.size := Decidable.of_not_not fun hn => h (at_out s i hn)
theorem chr_in {s : ByteArray} {i j : Nat} {l : List UInt8} (h : chr s i = .ok (l, j)) : i < j ∧ j ≤ s.size ∧ l.length ≤ 4 := by
  unfold chr at h
  split at h
  · cases h
  · split at h
    · cases h
    · split at h
      · split at h
        · cases h
        · split at h
          · cases h
          · cases h; exact ⟨by omega, by omega, by simp⟩
      · split at h
        · cases h
        · next h1 _ _ h2 =>
          have hl := len_in (s := s) (i := i) (by omega)
          have h4 : len s i ≤ 4 := by unfold len; (repeat' split); all_goals omega
          cases h
          refine ⟨by omega, by omega, ?_⟩
          have := List.length_take_le (len s i) (s.data.toList.drop i)
          omega
theorem txl_in {s : ByteArray} : ∀ {f i j : Nat} {acc l : List UInt8}, txl s f i acc = .ok (l, j) → i < j ∧ j ≤ s.size
  | 0, i, j, acc, l, h => by rw [txl] at h; cases h
  | f + 1, i, j, acc, l, h => by
    rw [txl] at h
    split at h
    · cases h
    · split at h
      · cases h; exact ⟨by omega, by omega⟩
      · split at h
        · cases h
        · next e =>
          have h1 := chr_in e
          have h2 := txl_in h
          exact ⟨by omega, h2.2⟩
theorem sgn_in {s : ByteArray} {i j : Nat} {x : ByteArray} : ∀ {L : List (List UInt8)}, (∀ y ∈ L, 0 < y.length ∧ y.length ≤ 2) → sgn s i L = .ok (x, j) → i < j ∧ j ≤ s.size ∧ 0 < x.size ∧ x.size ≤ 2 ∧ x.data.toList ∈ L ∧ i + x.size = j
  | [], _, h => by rw [sgn] at h; cases h
  | y :: L, hL, h => by
    rw [sgn] at h
    split at h
    · next hp =>
      unfold pre at hp
      simp only [Bool.and_eq_true, decide_eq_true_eq] at hp
      have h1 := hL y (by simp)
      cases h
      have e : (⟨y.toArray⟩ : ByteArray).size = y.length := by show y.toArray.size = _; simp
      rw [e]
      exact ⟨by omega, hp.1, h1.1, h1.2, by simp, rfl⟩
    · have := sgn_in (fun y hy => hL y (by simp [hy])) h
      exact ⟨this.1, this.2.1, this.2.2.1, this.2.2.2.1, by simp [this.2.2.2.2.1], this.2.2.2.2.2⟩
theorem signs_len : ∀ y ∈ signs, 0 < y.length ∧ y.length ≤ 2 := by decide
/-- What a token may be. -/
structure TkOk (s : ByteArray) (t : Tk) : Prop where
  hk : t.k ≤ 4
  hn : -9223372036854775808 ≤ t.n ∧ t.n ≤ 9223372036854775807
  ht : t.t.size ≤ s.size
  ha : t.a ≤ s.size
  sg : t.k = 4 → t.t.data.toList ∈ signs
  sh : t.t.size ≤ 4096
  nm : t.k = 3 → 0 < t.t.size
theorem cut_size (s : ByteArray) (i j : Nat) (h : j ≤ s.size) : (cut s i j).size = j - i := by unfold cut; rw [ByteArray.size_extract]; omega
theorem txl_len {s : ByteArray} : ∀ {f i j : Nat} {acc l : List UInt8}, txl s f i acc = .ok (l, j) → l.length + i + 1 ≤ acc.length + j
  | 0, i, j, acc, l, h => by rw [txl] at h; cases h
  | f + 1, i, j, acc, l, h => by
    rw [txl] at h
    split at h
    · cases h
    · split at h
      · cases h; omega
      · split at h
        · cases h
        · next x j' e =>
          have h2 := txl_len h
          rw [List.length_append] at h2
          have h3 : x.length + i ≤ j' := by
            unfold chr at e
            split at e
            · cases e
            · split at e
              · cases e
              · split at e
                · split at e
                  · cases e
                  · split at e
                    · cases e
                    · cases e; simp; omega
                · split at e
                  · cases e
                  · cases e
                    have := List.length_take_le (len s i) (s.data.toList.drop i)
                    omega
          omega
theorem scan_in {s : ByteArray} {i j : Nat} {t : Tk} (hi : i ≤ s.size) (h : scan s i = .ok (t, j)) : t.a = i ∧ TkOk s t ∧ j ≤ s.size ∧ (t.k = 0 → i = s.size ∧ j = s.size) ∧ (t.k ≠ 0 → i < j) := by
  have e0 : (⟨#[]⟩ : ByteArray).size = 0 := rfl
  unfold scan at h
  split at h
  · cases h
    exact ⟨rfl, ⟨by simp, by simp, by simp [e0], hi, (fun h => by cases h), by simp [e0], fun h => by simp at h⟩, hi, fun _ => ⟨by omega, by omega⟩, fun h => absurd rfl h⟩
  · split at h
    · split at h
      · cases h
      · next e =>
        split at h
        · cases h
        · have h1 := txl_in e
          have h2 := txl_len e
          cases h
          rename_i l _
          have e1 : (⟨l.toArray⟩ : ByteArray).size = l.length := by show l.toArray.size = _; simp
          simp at h2
          exact ⟨rfl, ⟨by simp, by simp, by rw [e1]; omega, hi, (fun h => by simp at h), by rw [e1]; omega, fun h => by simp at h⟩, h1.2, (fun h => by simp at h), fun _ => by omega⟩
    · split at h
      · cases h
        exact ⟨rfl, ⟨by simp, by simp, by simp [e0], hi, (fun h => by simp at h), by simp [e0], fun h => by simp at h⟩, by omega, (fun h => by simp at h), fun _ => by omega⟩
      · split at h
        · next hd =>
          split at h
          · cases h
            have := skp_lt (p := EPure.dig) (s := s) (i := i) (by omega) hd
            exact ⟨rfl, ⟨by simp, Nums.pnum_range _, by simp [e0], hi, (fun h => by simp at h), by simp [e0], fun h => by simp at h⟩, skp_in hi, (fun h => by simp at h), fun _ => this⟩
          · cases h
        · split at h
          · next hl =>
            split at h
            · cases h
              have hw : wrd (at' s i) = true := by unfold wrd; rw [hl]; rfl
              have := skp_lt (p := wrd) (s := s) (i := i) (by omega) hw
              have h3 := skp_in (p := wrd) hi
              have h4 := cut_size s i (skp wrd s i) h3
              exact ⟨rfl, ⟨by simp, by simp, by simp only [h4]; omega, hi, (fun h => by simp at h), by simp only [h4]; omega, fun _ => by simp only [h4]; omega⟩, h3, (fun h => by simp at h), fun _ => this⟩
            · cases h
          · split at h
            · cases h
            · next e =>
              cases h
              have := sgn_in signs_len e
              exact ⟨rfl, ⟨by simp, by simp, by simp only; omega, hi, fun _ => this.2.2.2.2.1, by simp only; omega, fun h => by simp at h⟩, this.2.1, (fun h => by simp at h), fun _ => this.1⟩
/-- What a state may be. -/
structure SrOk (s : ByteArray) (g : Sr) : Prop where
  a : g.a ≤ s.size
  r : g.r ≤ 512
  t : TkOk s g.tk
def mu (s : ByteArray) (g : Sr) : Nat := 2 * (s.size - g.a) + (if g.tk.k = 0 then 0 else 1)
theorem adv_in {s : ByteArray} {a r : Nat} {g : Sr} (ha : a ≤ s.size) (hr : r ≤ 512) (h : adv s a r = .ok g) : SrOk s g ∧ (g.tk.k = 0 → g.a = s.size) ∧ (g.tk.k ≠ 0 → a < g.a) ∧ a ≤ g.a := by
  unfold adv at h
  split at h
  · cases h
  · next t j e =>
    have h0 := skp_ge isb s a
    obtain ⟨h1, h2, h3, h4, h5⟩ := scan_in (skp_in ha) e
    split at h
    · next hk =>
      cases h
      exact ⟨⟨h3, hr, h2⟩, fun _ => (h4 hk).2, fun h => absurd hk h, by have := h4 hk; simp only; omega⟩
    · next hk =>
      have := h5 hk
      split at h
      · cases h
      · cases h
        exact ⟨⟨h3, by simp only; omega, h2⟩, fun h => absurd h hk, fun _ => by simp only; omega, by simp only; omega⟩
theorem adv_mu {s : ByteArray} {g g' : Sr} (hg : SrOk s g) (hk : g.tk.k ≠ 0) (h : adv s g.a g.r = .ok g') : SrOk s g' ∧ mu s g' < mu s g := by
  obtain ⟨h1, h2, h3, h4⟩ := adv_in hg.a hg.r h
  have ha := hg.a
  have ha' := h1.a
  refine ⟨h1, ?_⟩
  unfold mu
  rw [if_neg hk]
  by_cases h0 : g'.tk.k = 0
  · rw [if_pos h0]; omega
  · rw [if_neg h0]; have := h3 h0; omega
theorem is_k {t : Tk} {x : List UInt8} (h : is t x = true) : t.k ≠ 0 := by
  unfold is at h
  simp only [Bool.and_eq_true, beq_iff_eq] at h
  omega
theorem tak_mu {s : ByteArray} {x : List UInt8} {g g' : Sr} (hg : SrOk s g) (h : tak s x g = .ok g') : SrOk s g' ∧ mu s g' < mu s g := by
  unfold tak at h
  split at h
  · next hi => exact adv_mu hg (is_k hi) h
  · cases h
/-- Such a reader goes on. -/
def Dn (s : ByteArray) (q : P) : Prop := ∀ g x g', SrOk s g → q g = .ok (x, g') → SrOk s g' ∧ mu s g' < mu s g
theorem ded_dn (s : ByteArray) : Dn s ded := by
  intro g x g' hg h
  unfold ded at h
  split at h <;> cases h
theorem opOf_k {t : Tk} {o : Int} : ∀ {l : List (List UInt8 × Int)}, opOf t l = some o → t.k ≠ 0
  | [], h => by rw [opOf] at h; cases h
  | (x, y) :: l, h => by
    rw [opOf] at h
    split at h
    · next hi => exact is_k hi
    · exact opOf_k h
theorem more_dn {s : ByteArray} {k : Nat} {q : P} (hq : Dn s q) : ∀ f l g x g', SrOk s g → more s k q f l g = .ok (x, g') → SrOk s g' ∧ mu s g' ≤ mu s g
  | 0, l, g, x, g', hg, h => by rw [more] at h; cases h
  | f + 1, l, g, x, g', hg, h => by
    rw [more] at h
    split at h
    · cases h; exact ⟨hg, Nat.le_refl _⟩
    · next ho =>
      split at h
      · cases h
      · next e1 =>
        obtain ⟨h1, m1⟩ := adv_mu hg (opOf_k ho) e1
        split at h
        · cases h
        · next e2 =>
          obtain ⟨h2, m2⟩ := hq _ _ _ h1 e2
          obtain ⟨h3, m3⟩ := more_dn hq f _ _ _ _ h2 h
          exact ⟨h3, by omega⟩
theorem lev_dn {s : ByteArray} {q : P} (hq : Dn s q) : ∀ j, Dn s (lev s q j)
  | 0 => hq
  | j + 1 => by
    intro g x g' hg h
    rw [lev] at h
    dsimp only at h
    split at h
    · cases h
    · next e =>
      obtain ⟨h1, m1⟩ := lev_dn hq j _ _ _ hg e
      obtain ⟨h2, m2⟩ := more_dn (lev_dn hq j) _ _ _ _ _ h1 h
      exact ⟨h2, by omega⟩
theorem chc_dn {s : ByteArray} {S C : P} (hS : Dn s S) (hC : Dn s C) : Dn s (chc s S C) := by
  intro g x g' hg h
  unfold chc at h
  split at h
  · cases h
  · next e =>
    obtain ⟨h1, m1⟩ := lev_dn hS 11 _ _ _ hg e
    split at h
    · next hi =>
      split at h
      · cases h
      · next e2 =>
        obtain ⟨h2, m2⟩ := adv_mu h1 (is_k hi) e2
        split at h
        · cases h
        · next e3 =>
          obtain ⟨h3, m3⟩ := hC _ _ _ h2 e3
          split at h
          · cases h
          · next e4 =>
            obtain ⟨h4, m4⟩ := tak_mu h3 e4
            split at h
            · cases h
            · next e5 =>
              obtain ⟨h5, m5⟩ := hC _ _ _ h4 e5
              cases h
              exact ⟨h5, by omega⟩
    · cases h
      exact ⟨h1, m1⟩
theorem btw_dn {s : ByteArray} {C : P} (hC : Dn s C) (o c : List UInt8) : Dn s (btw s C o c) := by
  intro g x g' hg h
  unfold btw at h
  split at h
  · cases h
  · next e1 =>
    obtain ⟨h1, m1⟩ := tak_mu hg e1
    split at h
    · cases h
    · next e2 =>
      obtain ⟨h2, m2⟩ := hC _ _ _ h1 e2
      split at h
      · cases h
      · next e3 =>
        obtain ⟨h3, m3⟩ := tak_mu h2 e3
        cases h
        exact ⟨h3, by omega⟩
theorem prt_dn {s : ByteArray} {C : P} (hC : Dn s C) : ∀ f l g x g', SrOk s g → prt s C f l g = .ok (x, g') → SrOk s g' ∧ mu s g' ≤ mu s g
  | 0, l, g, x, g', hg, h => by rw [prt] at h; cases h
  | f + 1, l, g, x, g', hg, h => by
    rw [prt] at h
    split at h
    · next hi =>
      split at h
      · cases h
      · next e1 =>
        obtain ⟨h1, m1⟩ := adv_mu hg (is_k hi) e1
        split at h
        · next h3 =>
          split at h
          · cases h
          · next e2 =>
            obtain ⟨h2, m2⟩ := adv_mu h1 (by omega) e2
            obtain ⟨h3, m3⟩ := prt_dn hC f _ _ _ _ h2 h
            exact ⟨h3, by omega⟩
        · cases h
    · split at h
      · split at h
        · cases h
        · next e1 =>
          obtain ⟨h1, m1⟩ := btw_dn hC _ _ _ _ _ hg e1
          obtain ⟨h3, m3⟩ := prt_dn hC f _ _ _ _ h1 h
          exact ⟨h3, by omega⟩
      · cases h
        exact ⟨hg, Nat.le_refl _⟩
theorem nmd_dn {s : ByteArray} {C : P} (hC : Dn s C) (t : ByteArray) : ∀ g x g', SrOk s g → nmd s C t g = .ok (x, g') → SrOk s g' ∧ mu s g' ≤ mu s g := by
  intro g x g' hg h
  unfold nmd at h
  split at h
  · cases h; exact ⟨hg, Nat.le_refl _⟩
  · split at h
    · split at h
      · split at h
        · cases h
        · next e =>
          obtain ⟨h1, m1⟩ := btw_dn hC _ _ _ _ _ hg e
          cases h
          exact ⟨h1, by omega⟩
      · cases h; exact ⟨hg, Nat.le_refl _⟩
    · cases h; exact ⟨hg, Nat.le_refl _⟩
theorem wor_dn {s : ByteArray} {C : P} (hC : Dn s C) : Dn s (wor s C) := by
  intro g x g' hg h
  unfold wor at h
  split at h
  · split at h
    · cases h
    · next e =>
      obtain ⟨h1, m1⟩ := adv_mu hg (by omega) e
      cases h
      exact ⟨h1, m1⟩
  · split at h
    · split at h
      · cases h
      · next e =>
        obtain ⟨h1, m1⟩ := adv_mu hg (by omega) e
        cases h
        exact ⟨h1, m1⟩
    · split at h
      · split at h
        · cases h
        · next e =>
          obtain ⟨h1, m1⟩ := adv_mu hg (by omega) e
          obtain ⟨h2, m2⟩ := nmd_dn hC _ _ _ _ h1 h
          exact ⟨h2, by omega⟩
      · exact btw_dn hC _ _ _ _ _ hg h
theorem par_dn {s : ByteArray} {C : P} (hC : Dn s C) : Dn s (par s C) := by
  intro g x g' hg h
  unfold par at h
  split at h
  · cases h
  · next e =>
    obtain ⟨h1, m1⟩ := wor_dn hC _ _ _ hg e
    obtain ⟨h2, m2⟩ := prt_dn hC _ _ _ _ _ h1 h
    exact ⟨h2, by omega⟩
theorem sgd_dn {s : ByteArray} {S C : P} (hS : Dn s S) (hC : Dn s C) : Dn s (sgd s S C) := by
  intro g x g' hg h
  unfold sgd at h
  split at h
  · next hi =>
    split at h
    · cases h
    · next e =>
      obtain ⟨h1, m1⟩ := adv_mu hg (is_k hi) e
      split at h
      · cases h
      · next e2 =>
        obtain ⟨h2, m2⟩ := hS _ _ _ h1 e2
        cases h
        exact ⟨h2, by omega⟩
  · split at h
    · next hi =>
      split at h
      · cases h
      · next e =>
        obtain ⟨h1, m1⟩ := adv_mu hg (is_k hi) e
        split at h
        · cases h
        · next e2 =>
          obtain ⟨h2, m2⟩ := hS _ _ _ h1 e2
          cases h
          exact ⟨h2, by omega⟩
    · exact par_dn hC _ _ _ hg h
theorem lv2_dn (s : ByteArray) : ∀ m, Dn s (lv2 s m).1 ∧ Dn s (lv2 s m).2
  | 0 => ⟨ded_dn s, chc_dn (ded_dn s) (ded_dn s)⟩
  | m + 1 => ⟨sgd_dn (lv2_dn s m).1 (lv2_dn s m).2, chc_dn (sgd_dn (lv2_dn s m).1 (lv2_dn s m).2) (lv2_dn s m).2⟩
end Go.Proofs.YtnoohlmlpijhaaaGreatDoor.EDn
namespace Go.Proofs.YtnoohlmlpijhaaaGreatDoor.XBase
open Go.RowKit Go.Proofs.YtnoohlmlpijhaaaGreatDoor.EPure
open Go.Proofs.YtnoohlmlpijhaaaGreatDoor.Base (cell_lt Keep nx nxB add_none heap_alloc_new box_at below_box All below_cell)
set_option linter.unusedVariables false
def room7 : Value := .agg #[.int .i64 (-7), .int .i64 0, .string ⟨#[]⟩, .slice none 0 0]
/-- Four cells in a row, as one. -/
def Four (w : World) (g o : Nat) (u : Value) : Prop :=
  ∃ v0 v1 v2 v3, u = .agg #[v0, v1, v2, v3] ∧ w.cell? ⟨g, o, none⟩ = some v0 ∧ w.cell? ⟨g, o + 1, none⟩ = some v1 ∧ w.cell? ⟨g, o + 2, none⟩ = some v2 ∧ w.cell? ⟨g, o + 3, none⟩ = some v3
/-- v lies in w and holds c, nested less than m deep; r: with marked room behind the lists; the blocks are of S. -/
def In (r : Bool) (S : Nat → Prop) (w : World) : Nat → Value → Ex → Prop
  | 0, _, _ => False
  | m + 1, v, .mk k i s l => ∃ a cap, v = .agg #[.int .i64 k, .int .i64 i, .string s, .slice a l.length cap] ∧
      (-9223372036854775808 ≤ k ∧ k ≤ 9223372036854775807) ∧ (-9223372036854775808 ≤ i ∧ i ≤ 9223372036854775807) ∧ s.size ≤ 140737488351232 ∧
      l.length ≤ cap ∧ cap ≤ 9223372036854775807 ∧ l.length * 56 ≤ 140737488351232 ∧ (a = none → cap = 0) ∧
      ((l = [] ∧ r = false) ∨ ∃ g o, a = some ⟨g, o, none⟩ ∧ S g ∧ (∀ j (h : j < l.length), ∃ u, Four w g (o + j * 4) u ∧ In r S w m u l[j]) ∧
        (r = true → l.length + 2 ≤ cap ∧ Four w g (o + l.length * 4) room7 ∧ Four w g (o + l.length * 4 + 4) room7))
/-- v is a list of the expressions l. -/
def LAt (r : Bool) (S : Nat → Prop) (w : World) (m : Nat) (a : Option Addr) (cap : Nat) (l : List Ex) : Prop := (l = [] ∧ r = false) ∨ ∃ g o, a = some ⟨g, o, none⟩ ∧ S g ∧ (∀ j (h : j < l.length), ∃ u, Four w g (o + j * 4) u ∧ In r S w m u l[j]) ∧
        (r = true → l.length + 2 ≤ cap ∧ Four w g (o + l.length * 4) room7 ∧ Four w g (o + l.length * 4 + 4) room7)
def InL (r : Bool) (S : Nat → Prop) (w : World) (m : Nat) (v : Value) (l : List Ex) : Prop :=
  ∃ a cap, v = .slice a l.length cap ∧ l.length ≤ cap ∧ cap ≤ 9223372036854775807 ∧ l.length * 56 ≤ 140737488351232 ∧ (a = none → cap = 0) ∧ LAt r S w m a cap l
theorem in_iff {r : Bool} {S : Nat → Prop} {w : World} {m : Nat} {v : Value} {k i : Int} {s : ByteArray} {l : List Ex} :
    In r S w (m + 1) v (.mk k i s l) ↔ ∃ lv, v = .agg #[.int .i64 k, .int .i64 i, .string s, lv] ∧
      (-9223372036854775808 ≤ k ∧ k ≤ 9223372036854775807) ∧ (-9223372036854775808 ≤ i ∧ i ≤ 9223372036854775807) ∧ s.size ≤ 140737488351232 ∧ InL r S w m lv l := by
  constructor
  · intro h
    rw [In] at h
    obtain ⟨a, cap, h1, h2, h3, h4, h6⟩ := h
    exact ⟨_, h1, h2, h3, h4, a, cap, rfl, h6⟩
  · rintro ⟨lv, h1, h2, h3, h4, a, cap, rfl, h6⟩
    rw [In]
    exact ⟨a, cap, h1, h2, h3, h4, h6⟩
theorem Keep.four {S : Nat → Prop} {w w' : World} (h : Keep S w w') {g o : Nat} {v : Value} (hS : S g) (hc : Four w g o v) : Four w' g o v := by
  obtain ⟨v0, v1, v2, v3, rfl, c0, c1, c2, c3⟩ := hc
  exact ⟨v0, v1, v2, v3, rfl, h.cell hS c0, h.cell hS c1, h.cell hS c2, h.cell hS c3⟩
theorem InL.keep_of {r : Bool} {S : Nat → Prop} {w w' : World} {m : Nat} (ih : ∀ (v : Value) (c : Ex), In r S w m v c → In r S w' m v c) {v : Value} {l : List Ex} (h : InL r S w m v l) (hk : Keep S w w') : InL r S w' m v l := by
  obtain ⟨a, cap, h1, h2, h3, h4, h5, h6⟩ := h
  refine ⟨a, cap, h1, h2, h3, h4, h5, ?_⟩
  rcases h6 with h6 | ⟨g, o, ha, hS, hc, hr⟩
  · exact .inl h6
  · refine .inr ⟨g, o, ha, hS, fun j hj => ?_, fun hr' => ⟨(hr hr').1, Keep.four hk hS (hr hr').2.1, Keep.four hk hS (hr hr').2.2⟩⟩
    obtain ⟨u, hu, hi⟩ := hc j hj
    exact ⟨u, Keep.four hk hS hu, ih _ _ hi⟩
theorem In.keep {r : Bool} {S : Nat → Prop} {w w' : World} (hk : Keep S w w') : ∀ {m : Nat} {v : Value} {c : Ex}, In r S w m v c → In r S w' m v c := by
  intro m
  induction m with
  | zero => intro v c h; rw [In] at h; exact h.elim
  | succ m ih =>
    intro v c h
    obtain ⟨k, i, s, l⟩ := c
    rw [in_iff] at h ⊢
    obtain ⟨lv, h1, h3, h4, h5, h6⟩ := h
    exact ⟨lv, h1, h3, h4, h5, h6.keep_of (fun v c => ih) hk⟩
theorem InL.keep {r : Bool} {S : Nat → Prop} {w w' : World} {m : Nat} {v : Value} {l : List Ex} (h : InL r S w m v l) (hk : Keep S w w') : InL r S w' m v l := h.keep_of (fun v c h => h.keep hk) hk
theorem In.below {r : Bool} {S : Nat → Prop} {w w' : World} {m : Nat} {v : Value} {c : Ex} (h : In r S w m v c) (hk : Below w.heap.size w w') : In r S w' m v c := h.keep (.of_below hk)
theorem InL.below {r : Bool} {S : Nat → Prop} {w w' : World} {m : Nat} {v : Value} {l : List Ex} (h : InL r S w m v l) (hk : Below w.heap.size w w') : InL r S w' m v l := h.keep (.of_below hk)
/-- Less asked: no room, more blocks, deeper. -/
theorem InL.weak_of {r : Bool} {S S' : Nat → Prop} {w : World} {m m' : Nat} {v : Value} {l : List Ex} (hS : ∀ b, S b → S' b) (r' : Bool) (hr : r' = true → r = true) (ih : ∀ (v : Value) (c : Ex), In r S w m v c → In r' S' w m' v c)
    (h : InL r S w m v l) : InL r' S' w m' v l := by
  obtain ⟨a, cap, h1, h2, h3, h4, h5, h6⟩ := h
  refine ⟨a, cap, h1, h2, h3, h4, h5, ?_⟩
  rcases h6 with ⟨h7, h8⟩ | ⟨g, o, ha, hg, hc, hr0⟩
  · refine .inl ⟨h7, ?_⟩
    cases r' with
    | true => rw [hr rfl] at h8; cases h8
    | false => rfl
  · refine .inr ⟨g, o, ha, hS _ hg, fun j hj => ?_, fun h => hr0 (hr h)⟩
    obtain ⟨u, hu, hi⟩ := hc j hj
    exact ⟨u, hu, ih _ _ hi⟩
theorem In.weak {r : Bool} {S S' : Nat → Prop} {w : World} (hS : ∀ b, S b → S' b) (r' : Bool) (hr : r' = true → r = true) : ∀ {m : Nat} (m' : Nat) {v : Value} {c : Ex}, m ≤ m' → In r S w m v c → In r' S' w m' v c := by
  intro m
  induction m with
  | zero => intro m' v c _ h; rw [In] at h; exact h.elim
  | succ m ih =>
    intro m' v c hm h
    obtain ⟨m', rfl⟩ : ∃ q, m' = q + 1 := ⟨m' - 1, by omega⟩
    obtain ⟨k, i, s, l⟩ := c
    rw [in_iff] at h ⊢
    obtain ⟨lv, h1, h3, h4, h5, h6⟩ := h
    exact ⟨lv, h1, h3, h4, h5, h6.weak_of hS r' hr (fun v c h => ih m' (by omega) h)⟩
theorem InL.weak {r : Bool} {S S' : Nat → Prop} {w : World} (hS : ∀ b, S b → S' b) (r' : Bool) (hr : r' = true → r = true) {m : Nat} (m' : Nat) {v : Value} {l : List Ex} (hm : m ≤ m') (h : InL r S w m v l) : InL r' S' w m' v l :=
  h.weak_of hS r' hr (fun v c h => h.weak hS r' hr m' hm)
theorem In.plain {r : Bool} {S : Nat → Prop} {w : World} {m : Nat} {v : Value} {c : Ex} (h : In r S w m v c) : In false All w m v c := h.weak (fun _ _ => trivial) false (fun h => by cases h) m (Nat.le_refl _)
theorem InL.plain {r : Bool} {S : Nat → Prop} {w : World} {m : Nat} {v : Value} {c : List Ex} (h : InL r S w m v c) : InL false All w m v c := h.weak (fun _ _ => trivial) false (fun h => by cases h) m (Nat.le_refl _)
/-- A box of four cells. -/
theorem four_box {w : World} {B : Nat} {v0 v1 v2 v3 : Value} {t : TypeId} (h : w.heap[B]? = some (.cells #[v0, v1, v2, v3] t (0, 0))) :
    w.cell? ⟨B, 0, none⟩ = some v0 ∧ w.cell? ⟨B, 1, none⟩ = some v1 ∧ w.cell? ⟨B, 2, none⟩ = some v2 ∧ w.cell? ⟨B, 3, none⟩ = some v3 := by
  refine ⟨?_, ?_, ?_, ?_⟩ <;> simp [World.cell?, h]
theorem two_box {w : World} {B : Nat} {v0 v1 : Value} {t : TypeId} (h : w.heap[B]? = some (.cells #[v0, v1] t (0, 0))) :
    w.cell? ⟨B, 0, none⟩ = some v0 ∧ w.cell? ⟨B, 1, none⟩ = some v1 := by
  refine ⟨?_, ?_⟩ <;> simp [World.cell?, h]
theorem frozen_box {w : World} {B : Nat} {vs : Array Value} {t : TypeId} (h : w.heap[B]? = some (.cells vs t (0, 0))) (j : Nat) : w.frozen? ⟨B, j, none⟩ = false := by
  simp [World.frozen?, h]
theorem elem_at {r : Bool} {S : Nat → Prop} {w : World} {m : Nat} {a : Option Addr} {cap : Nat} {l : List Ex} (hL : LAt r S w m a cap l) {q : Nat} (h : q < l.length) :
    ∃ g o u, a = some ⟨g, o, none⟩ ∧ S g ∧ Four w g (o + q * 4) u ∧ In r S w m u l[q] := by
  rcases hL with ⟨rfl, _⟩ | ⟨g, o, ha, hS, hc, _⟩
  · simp at h
  · obtain ⟨u, hu, hi⟩ := hc q h
    exact ⟨g, o, u, ha, hS, hu, hi⟩
theorem four_below {w w' : World} {g o : Nat} {u : Value} (h : Four w g o u) (hb : Below w.heap.size w w') : Four w' g o u := Keep.four (Keep.of_below (S := All) hb) trivial h
theorem In.shape {r : Bool} {S : Nat → Prop} {w : World} {m : Nat} {v : Value} {c : Ex} (h : In r S w m v c) :
    ∃ m' lv, m = m' + 1 ∧ v = .agg #[.int .i64 c.o, .int .i64 c.i, .string c.s, lv] ∧ (-9223372036854775808 ≤ c.o ∧ c.o ≤ 9223372036854775807) ∧ (-9223372036854775808 ≤ c.i ∧ c.i ≤ 9223372036854775807) ∧ c.s.size ≤ 140737488351232 ∧ InL r S w m' lv c.l := by
  cases m with
  | zero => rw [In] at h; exact h.elim
  | succ m =>
    obtain ⟨k, i, s, l⟩ := c
    rw [in_iff] at h
    obtain ⟨lv, h⟩ := h
    exact ⟨m, lv, rfl, h⟩
/-- What the four cells of an expression are. -/
theorem In.kinds {r : Bool} {S : Nat → Prop} {w : World} {m : Nat} {x0 x1 x2 x3 : Value} {c : Ex} (h : In r S w m (.agg #[x0, x1, x2, x3]) c) :
    ∃ m' a2 c2, m = m' + 1 ∧ x0 = .int .i64 c.o ∧ x1 = .int .i64 c.i ∧ x2 = .string c.s ∧ x3 = .slice a2 c.l.length c2 ∧ (-9223372036854775808 ≤ c.o ∧ c.o ≤ 9223372036854775807) ∧ (-9223372036854775808 ≤ c.i ∧ c.i ≤ 9223372036854775807) ∧ c.s.size ≤ 140737488351232 ∧ InL r S w m' (.slice a2 c.l.length c2) c.l := by
  obtain ⟨m', lv, hm, e, ho, hi, hs, hl⟩ := h.shape
  simp only [Value.agg.injEq, Array.mk.injEq, List.cons.injEq, and_true] at e
  obtain ⟨rfl, rfl, rfl, rfl⟩ := e
  have hl0 := hl
  obtain ⟨a2, c2, rfl, -⟩ := hl
  exact ⟨m', a2, c2, hm, rfl, rfl, rfl, rfl, ho, hi, hs, hl0⟩
/-- Blocks from lo on, below hi. -/
def Rg (lo hi : Nat) : Nat → Prop := fun b => lo ≤ b ∧ b < hi
/-- An expression without kids. -/
theorem In.leaf (w : World) (m : Nat) (S : Nat → Prop) (k i : Int) (s : ByteArray) (hk : -9223372036854775808 ≤ k ∧ k ≤ 9223372036854775807) (hi : -9223372036854775808 ≤ i ∧ i ≤ 9223372036854775807) (hs : s.size ≤ 140737488351232) :
    In false S w (m + 1) (.agg #[.int .i64 k, .int .i64 i, .string s, .slice none 0 0]) (.mk k i s []) := by
  rw [in_iff]
  exact ⟨_, rfl, hk, hi, hs, none, 0, rfl, by simp, by simp, by simp, fun _ => rfl, .inl ⟨rfl, rfl⟩⟩
end Go.Proofs.YtnoohlmlpijhaaaGreatDoor.XBase

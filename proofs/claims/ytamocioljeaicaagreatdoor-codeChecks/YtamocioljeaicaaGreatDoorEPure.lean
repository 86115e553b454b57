/- Expressions: the plain reader: tokens, nesting, levels (no walk). -/
import Derived.Test.YtamocioljeaicaaGreatDoorUBase
import Derived.Test.YtamocioljeaicaaGreatDoorNums
namespace Go.Proofs.YtamocioljeaicaaGreatDoor.EPure
open Go.Proofs.YtamocioljeaicaaGreatDoor.UBase
set_option linter.unusedVariables false

/-- An expression: its Op, Int, Str, Kids. -/
structure Ex where
  mk ::
  (o0 : Int) (i0 : Int) (s0 : ByteArray) (l0 : List Ex)
def Ex.o : Ex → Int | .mk o _ _ _ => o
def Ex.i : Ex → Int | .mk _ i _ _ => i
def Ex.s : Ex → ByteArray | .mk _ _ s _ => s
def Ex.l : Ex → List Ex | .mk _ _ _ l => l
/-- A fault: its code and its place. -/
abbrev F := Nat × Nat
/-- A token: its kind (0 the end, 1 a number, 2 a text, 3 a name, 4 a sign), text, number, place. -/
structure Tk where
  k : Nat
  t : ByteArray
  n : Int
  a : Nat
def isb (c : Nat) : Bool := c == 32 || (c == 9 || (c == 10 || c == 13))
def dig (c : Nat) : Bool := decide (48 ≤ c) && decide (c ≤ 57)
def let' (c : Nat) : Bool := decide (97 ≤ c) && decide (c ≤ 122)
def wrd (c : Nat) : Bool := let' c || (dig c || c == 95)
/-- The first place from i on whose byte is none of those. -/
def sk (p : Nat → Bool) (s : ByteArray) : Nat → Nat → Nat
  | 0, i => i
  | f + 1, i => if i < s.size ∧ p (at' s i) = true then sk p s f (i + 1) else i
def skp (p : Nat → Bool) (s : ByteArray) (i : Nat) : Nat := sk p s (s.size - i) i
/-- The signs, the long ones first. -/
def signs : List (List UInt8) := [[124, 124], [38, 38], [61, 61], [33, 61], [60, 61], [62, 61], [60, 60], [62, 62], [63], [58], [60], [62], [124], [94], [38], [126], [43], [45], [42], [47], [37], [33], [46], [91], [93], [40], [41]]
def pre (s : ByteArray) (i : Nat) (x : List UInt8) : Bool := decide (i + x.length ≤ s.size) && ((s.data.toList.drop i).take x.length == x)
def sgn (s : ByteArray) (i : Nat) : List (List UInt8) → Except F (ByteArray × Nat)
  | [] => .error (1000, i)
  | x :: l => if pre s i x = true then .ok (⟨x.toArray⟩, i + x.length) else sgn s i l
/-- What stands behind a backslash. -/
def esc (c : Nat) : Option Nat := if c = 39 then some 39 else if c = 92 then some 92 else if c = 125 then some 125 else if c = 110 then some 10 else none
/-- A character of a text: its bytes and the place behind it. -/
def chr (s : ByteArray) (i : Nat) : Except F (List UInt8 × Nat) :=
  if s.size ≤ i then .error (1000, i)
  else if at' s i < 32 then .error (1000, i)
  else if at' s i = 92 then
    if s.size ≤ i + 1 then .error (1000, i + 1)
    else match esc (at' s (i + 1)) with
      | none => .error (1000, i + 1)
      | some c => .ok ([UInt8.ofNat c], i + 2)
  else if len s i = 0 then .error (1000, i)
  else .ok ((s.data.toList.drop i).take (len s i), i + len s i)
def txl (s : ByteArray) : Nat → Nat → List UInt8 → Except F (List UInt8 × Nat)
  | 0, i, _ => .error (1000, i)
  | f + 1, i, acc => if s.size ≤ i then .error (1000, i) else if at' s i = 39 then .ok (acc, i + 1) else match chr s i with
    | .error e => .error e
    | .ok (x, j) => txl s f j (acc ++ x)
def cut (s : ByteArray) (i j : Nat) : ByteArray := s.extract i j
/-- The token that begins at i, and the place behind it. -/
def scan (s : ByteArray) (i : Nat) : Except F (Tk × Nat) :=
  if s.size ≤ i then .ok (⟨0, ⟨#[]⟩, 0, i⟩, i)
  else if at' s i = 39 then match txl s (s.size + 1) (i + 1) [] with
    | .error e => .error e
    | .ok (l, j) => if 4096 < l.length then .error (1002, i) else .ok (⟨2, ⟨l.toArray⟩, 0, i⟩, j)
  else if at' s i = 48 then .ok (⟨1, ⟨#[]⟩, 0, i⟩, i + 1)
  else if dig (at' s i) = true then
    if Nums.perr (Sums.bs (cut s i (skp dig s i))) = 0 then .ok (⟨1, ⟨#[]⟩, Nums.pnum (Sums.bs (cut s i (skp dig s i))), i⟩, skp dig s i) else .error (1000, i)
  else if let' (at' s i) = true then
    if skp wrd s i - i ≤ 32 then .ok (⟨3, cut s i (skp wrd s i), 0, i⟩, skp wrd s i) else .error (1000, i)
  else match sgn s i signs with
    | .error e => .error e
    | .ok (x, j) => .ok (⟨4, x, 0, i⟩, j)
/-- The reader: the next token, the place behind it, how many have been read. -/
structure Sr where
  tk : Tk
  a : Nat
  r : Nat
def adv (s : ByteArray) (a r : Nat) : Except F Sr := match scan s (skp isb s a) with
  | .error e => .error e
  | .ok (t, j) => if t.k = 0 then .ok ⟨t, j, r⟩ else if r = 512 then .error (1002, t.a) else .ok ⟨t, j, r + 1⟩
def is (t : Tk) (x : List UInt8) : Bool := t.k == 4 && t.t.data.toList == x
def ends (t : Tk) : F := (1000, t.a)
def tak (s : ByteArray) (x : List UInt8) (g : Sr) : Except F Sr := if is g.tk x = true then adv s g.a g.r else .error (ends g.tk)
/-- The levels with two operands. -/
def lvs : List (List (List UInt8 × Int)) := [[([124, 124], 30)], [([38, 38], 29)], [([61, 61], 27), ([33, 61], 28)], [([60], 23), ([60, 61], 24), ([62], 25), ([62, 61], 26)], [([124], 22)], [([94], 21)], [([38], 20)], [([60, 60], 18), ([62, 62], 19)], [([126], 17)], [([43], 15), ([45], 16)], [([42], 12), ([47], 13), ([37], 14)]]
/-- The Op of a level whose sign this token is. -/
def opOf (t : Tk) : List (List UInt8 × Int) → Option Int
  | [] => none
  | (x, o) :: l => if is t x = true then some o else opOf t l
def wordOp (x : List UInt8) : Option Int := if x = [110, 117, 108, 108] then some 1 else if x = [102, 97, 108, 115, 101] then some 2 else if x = [116, 114, 117, 101] then some 3 else none
def callOf (x : List UInt8) : Option Int := if x = [108, 101, 110] then some 1 else if x = [115, 116, 114] then some 2 else if x = [105, 56] then some 3 else if x = [117, 56] then some 4 else if x = [105, 49, 54] then some 5 else if x = [117, 49, 54] then some 6 else if x = [105, 51, 50] then some 7 else if x = [117, 51, 50] then some 8 else none
abbrev A (α : Type) := Except F (α × Sr)
def nd (o : Int) (l : List Ex) : Ex := .mk o 0 ⟨#[]⟩ l
abbrev P := Sr → A Ex
/-- Where nothing may stand, so deep it lies. -/
def ded : P := fun g => if g.tk.k = 0 then .error (1000, g.tk.a) else .error (1001, g.tk.a)
/-- Behind an operand of level k; q reads what is tighter. -/
def more (s : ByteArray) (k : Nat) (q : P) : Nat → Ex → P
  | 0, _, g => .error (ends g.tk)
  | f + 1, l, g => match opOf g.tk (lvs.getD k []) with
    | none => .ok (l, g)
    | some o => match adv s g.a g.r with
      | .error e => .error e
      | .ok g1 => match q g1 with
        | .error e => .error e
        | .ok (r, g2) => more s k q f (nd o [l, r]) g2
/-- The j tightest levels, over what has a sign or none. -/
def lev (s : ByteArray) (q : P) : Nat → P
  | 0 => q
  | j + 1 => fun g => match lev s q j g with
    | .error e => .error e
    | .ok (l, g1) => more s (10 - j) (lev s q j) (2 * s.size + 2) l g1
/-- An if; S: what has a sign, C: an if that lies deeper. -/
def chc (s : ByteArray) (S C : P) : P := fun g => match lev s S 11 g with
  | .error e => .error e
  | .ok (t, g1) => if is g1.tk [63] = true then match adv s g1.a g1.r with
      | .error e => .error e
      | .ok g2 => match C g2 with
        | .error e => .error e
        | .ok (a, g3) => match tak s [58] g3 with
          | .error e => .error e
          | .ok g4 => match C g4 with
            | .error e => .error e
            | .ok (b, g5) => .ok (nd 31 [t, a, b], g5)
    else .ok (t, g1)
def btw (s : ByteArray) (C : P) (o c : List UInt8) : P := fun g => match tak s o g with
  | .error e => .error e
  | .ok g1 => match C g1 with
    | .error e => .error e
    | .ok (x, g2) => match tak s c g2 with
      | .error e => .error e
      | .ok g3 => .ok (x, g3)
/-- What stands behind a word. -/
def prt (s : ByteArray) (C : P) : Nat → Ex → P
  | 0, _, g => .error (ends g.tk)
  | f + 1, x, g => if is g.tk [46] = true then match adv s g.a g.r with
      | .error e => .error e
      | .ok g1 => if g1.tk.k = 3 then match adv s g1.a g1.r with
          | .error e => .error e
          | .ok g2 => prt s C f (.mk 7 0 g1.tk.t [x]) g2
        else .error (ends g1.tk)
    else if is g.tk [91] = true then match btw s C [91] [93] g with
      | .error e => .error e
      | .ok (y, g1) => prt s C f (nd 8 [x, y]) g1
    else .ok (x, g)
/-- What a name says. -/
def nmd (s : ByteArray) (C : P) (t : ByteArray) : P := fun g1 => match wordOp t.data.toList with
  | some o => .ok (nd o [], g1)
  | none => match callOf t.data.toList with
    | some c => if is g1.tk [40] = true then match btw s C [40] [41] g1 with
        | .error e => .error e
        | .ok (x, g2) => .ok (.mk 9 c ⟨#[]⟩ [x], g2)
      else .ok (.mk 6 0 t [], g1)
    | none => .ok (.mk 6 0 t [], g1)
def wor (s : ByteArray) (C : P) : P := fun g => if g.tk.k = 1 then match adv s g.a g.r with
    | .error e => .error e
    | .ok g1 => .ok (.mk 4 g.tk.n ⟨#[]⟩ [], g1)
  else if g.tk.k = 2 then match adv s g.a g.r with
    | .error e => .error e
    | .ok g1 => .ok (.mk 5 0 g.tk.t [], g1)
  else if g.tk.k = 3 then match adv s g.a g.r with
    | .error e => .error e
    | .ok g1 => nmd s C g.tk.t g1
  else btw s C [40] [41] g
def par (s : ByteArray) (C : P) : P := fun g => match wor s C g with
  | .error e => .error e
  | .ok (x, g1) => prt s C (2 * s.size + 2) x g1
/-- What has a sign or none, where it may still stand; S, C: what lies deeper. -/
def sgd (s : ByteArray) (S C : P) : P := fun g => if is g.tk [45] = true then match adv s g.a g.r with
    | .error e => .error e
    | .ok g1 => match S g1 with
      | .error e => .error e
      | .ok (x, g2) => .ok (nd 10 [x], g2)
  else if is g.tk [33] = true then match adv s g.a g.r with
    | .error e => .error e
    | .ok g1 => match S g1 with
      | .error e => .error e
      | .ok (x, g2) => .ok (nd 11 [x], g2)
  else par s C g
/-- What has a sign, and an if, where m levels of nesting are left. -/
def lv2 (s : ByteArray) : Nat → P × P
  | 0 => (ded, chc s ded ded)
  | m + 1 => (sgd s (lv2 s m).1 (lv2 s m).2, chc s (sgd s (lv2 s m).1 (lv2 s m).2) (lv2 s m).2)
/-- What Parse answers. -/
def prs (s : ByteArray) : Except F Ex := match adv s 0 0 with
  | .error e => .error e
  | .ok g => match (lv2 s 32).2 g with
    | .error e => .error e
    | .ok (x, g1) => if g1.tk.k = 0 then .ok x else .error (ends g1.tk)
end Go.Proofs.YtamocioljeaicaaGreatDoor.EPure

/- Programs as bytes, plainly: rows of bytes that grow up to a limit; the pieces of each part of a program. -/
import Derived.Test.YtgknjjaemjkloaaZTk
import Derived.Test.YtgknjjaemjkloaaTMeas
namespace Go.Proofs.Ytgknjjaemjkloaa.YPl
open Go.Proofs.Ytgknjjaemjkloaa.Leb
open Go.Proofs.Ytgknjjaemjkloaa.TBase (T)
set_option linter.unusedVariables false

abbrev By := List UInt8
/-- What put makes of the bytes. -/
def pt (L X : By) : By := if 1048576 < L.length then L else L ++ X
def pts (L : By) (Xs : List By) : By := Xs.foldl pt L
theorem pts_app (L : By) (Xs Ys : List By) : pts L (Xs ++ Ys) = pts (pts L Xs) Ys := List.foldl_append
theorem pts_one (L X : By) : pts L [X] = pt L X := rfl
theorem pts_nil (L : By) : pts L [] = L := rfl
theorem pt_len {L X : By} (hX : X.length ≤ 4096) (h : L.length ≤ 1052672) : (pt L X).length ≤ 1052672 := by
  unfold pt; split <;> (try rw [List.length_append]) <;> omega
/-- The pieces of a part: none, where it may not be. -/
abbrev Pc := Option (List By)
def cnt (lim : Nat) (n : Int) : Pc := if 0 ≤ n ∧ n ≤ lim then some [putL n.toNat] else none
def oct (x : Int) : Pc := if 0 ≤ x ∧ x ≤ 255 then some [[UInt8.ofNat x.toNat]] else none
def whl (x : Int) : Pc := some [putL (zig x)]
def txt (s : ByteArray) : Pc := if s.size ≤ 4096 ∧ UBase.verr s = 0 then some [putL s.size, s.data.toList] else none
/-- One part behind the other. -/
def cat (a b : Pc) : Pc := match a, b with | some x, some y => some (x ++ y) | _, _ => none
def lis {α : Type} (f : α → Pc) : List α → Pc
  | [] => some []
  | c :: l => cat (f c) (lis f l)
def lst {α : Type} (lim : Nat) (f : α → Pc) (l : List α) : Pc := cat (cnt lim l.length) (lis f l)
abbrev Ins := Int × Int
def ins (i : Ins) : Pc := cat (oct i.1) (whl i.2)
def att (a : ByteArray × ByteArray) : Pc := cat (txt a.1) (txt a.2)
/-- An operation: kind, three numbers, a list. -/
structure Oq where
  (k a b c : Int) (l : List Int)
structure Bk where
  (d : Int) (o : List Oq) (u : List Int)
structure Pg where
  (t : List ByteArray) (c : List (List Ins)) (s : List T) (b : List Bk)
def opc (o : Oq) : Pc := cat (oct o.k) (cat (whl o.a) (cat (whl o.b) (cat (whl o.c) (lst 64 whl o.l))))
def blk (b : Bk) : Pc := cat (cnt 64 b.d) (cat (lst 8192 opc b.o) (lst 8192 whl b.u))
def ndL : List T → Pc
  | [] => some []
  | .mk g s n l :: r => cat (cat (txt g) (if g.size = 0 then txt s else cat (lst 4096 att n) (cat (cnt 4096 l.length) (ndL l)))) (ndL r)
def nd (t : T) : Pc := ndL [t]
def stt (t : T) : Pc := if TMeas.ck [t] = 0 then nd t else none
def prg (p : Pg) : Pc := cat (oct 1) (cat (lst 16384 txt p.t) (cat (lst 8192 (fun l => lst 8192 ins l) p.c) (cat (lst 4096 stt p.s) (lst 8192 blk p.b))))
/-- What Encode answers: the bytes, or an error. -/
def enc (p : Pg) : Except Nat By := match prg p with
  | none => .error 2100
  | some Xs => if 1048576 < (pts [] Xs).length then .error 2101 else .ok (pts [] Xs)
theorem cat_some {a b : Pc} {z : List By} (h : cat a b = some z) : ∃ x y, a = some x ∧ b = some y ∧ z = x ++ y := by
  cases a <;> cases b <;> simp_all [cat]
theorem cat_none {a : Pc} : cat none a = none := by cases a <;> rfl
theorem cat_nil {a : Pc} : cat (some []) a = a := by cases a <;> rfl
theorem cat_nil' {a : Pc} : cat a (some []) = a := by cases a <;> simp [cat]
theorem cat_assoc (a b c : Pc) : cat (cat a b) c = cat a (cat b c) := by cases a <;> cases b <;> cases c <;> simp [cat]
end Go.Proofs.Ytgknjjaemjkloaa.YPl

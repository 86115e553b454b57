/- Which programs may be run, plainly (package verify). -/
import Derived.Test.YtgknjjaemjkloaaUOwn
import Derived.Test.YtgknjjaemjkloaaBase
import Derived.Test.YtgknjjaemjkloaaYPl
import Derived.Test.YtgknjjaemjkloaaUWord
import Derived.Test.YtgknjjaemjkloaaTMeas
import Derived.Test.YtgknjjaemjkloaaCPu
namespace Go.Proofs.Ytgknjjaemjkloaa.STx
open Go.RowKit Go.Proofs.Ytgknjjaemjkloaa.Base Go.Proofs.Ytgknjjaemjkloaa.UBase Go.Proofs.Ytgknjjaemjkloaa.UValid Go.Proofs.Ytgknjjaemjkloaa.UOwn
set_option linter.unusedVariables false

/-- A text that may be. -/
def tg (s : ByteArray) : Bool := decide (s.size ≤ 4096) && (verr s == 0)
theorem iter_below (w : World) (s : ByteArray) (p : Nat) : Below w.heap.size w (w.iter s p) := (Below.refl _ w).alloc (Nat.le_refl _) _
theorem verr_cases (s : ByteArray) : verr s = 0 ∨ verr s = 300 := by
  cases h : bad s 0 with
  | none => exact .inl (verr_none h).2
  | some i => exact .inr (verr_some h).2
theorem tmb_c (s : ByteArray) (hs : s.size ≤ 140737488351232) (w : World) :
    Calls Try.prog 56 #[.string s] w fun r w' => r = .returned (.bool (tg s)) ∧ Below w.heap.size w w' := by
  have c71 := valid_c s (by omega) w
  by_cases h : s.size ≤ 4096
  · have e : tg s = (verr s == 0) := by simp [tg, h]
    rw [e]
    have hv := verr_cases s
    generalize verr s = x at *
    generalize vat s = y at *
    have h' : decide ((4096 : Int) < (s.size : Int)) = false := decide_eq_false (by omega)
    clear e
    rcases hv with rfl | rfl
    · go_enter Try.func56, Try.ntmps56
      go_wp2_with (first | (go_at_call 79; refine c71.mono ?_; rintro e w' ⟨rfl, p, rfl⟩))
      go_ret
      exact ⟨rfl, iter_below _ _ _⟩
    · go_enter Try.func56, Try.ntmps56
      go_wp2_with (first | (go_at_call 79; refine c71.mono ?_; rintro e w' ⟨rfl, p, rfl⟩))
      go_ret
      exact ⟨rfl, iter_below _ _ _⟩
  · have e : tg s = false := by simp [tg, h]
    rw [e]
    have h' : decide ((4096 : Int) < (s.size : Int)) = true := decide_eq_true (by omega)
    clear c71 e
    go_enter Try.func56, Try.ntmps56
    go_wp2_with fail
    go_ret
    exact ⟨rfl, Below.refl _ _⟩
end Go.Proofs.Ytgknjjaemjkloaa.STx

namespace Go.Proofs.Ytgknjjaemjkloaa.BPl
open Go.Proofs.Ytgknjjaemjkloaa.YPl (Oq Bk Pg)
open Go.Proofs.Ytgknjjaemjkloaa.TBase (T)
open Go.Proofs.Ytgknjjaemjkloaa.CPu (Ins)
set_option linter.unusedVariables false

/-- What is around a block or an operation: owned, looped, stack, elements, loops. -/
structure Ar where
  (ow lp : Bool) (st el ls : Int)
/-- What operations name: texts, needs of codes, depths of statics. -/
structure Sh where
  (t : List ByteArray) (n d : List Int)
/-- A body: what is around, lets, outer, closed. -/
structure Bd where
  (ar : Ar) (lt : Int) (ou : List Int) (cl : Int)
def ar0 : Ar := ⟨false, false, 0, 0, 0⟩
def isN (i : Int) (n : Nat) : Bool := bif decide (0 ≤ i) then decide (i < (n : Int)) else false
def txa (S : Sh) (i : Int) : ByteArray := S.t.getD i.toNat ByteArray.empty
def nda (S : Sh) (i : Int) : Int := S.n.getD i.toNat 0
def dpa (S : Sh) (i : Int) : Int := S.d.getD i.toNat 0
def isTg (S : Sh) (i : Int) : Bool := bif isN i S.t.length then UBase.word (txa S i) 45 else false
def isV (S : Sh) (o : Oq) : Bool := bif o.k == 4 then isN o.b S.t.length else isN o.b S.n.length
/-- Nothing is left. -/
def zr (n : Bool) (a b c : Int) (l : Nat) : Bool := bif n then (bif a == 0 then (bif b == 0 then (bif c == 0 then ((l : Int) == 0) else false) else false) else false) else false
def fits (S : Sh) (o : Oq) : Bool :=
  if o.k = 1 then zr (isN o.a S.t.length) 0 o.b o.c o.l.length
  else if o.k = 4 ∨ o.k = 5 then zr (bif isV S o then isTg S o.a else false) 0 0 o.c o.l.length
  else if o.k = 3 then zr (isTg S o.a) 0 o.b o.c o.l.length
  else if o.k = 9 then zr (bif isN o.b S.n.length then isN o.a S.n.length else false) 0 0 0 o.l.length
  else if o.k = 8 then zr (isN o.a S.n.length) 0 0 0 o.l.length
  else if o.k = 2 ∨ o.k = 11 then zr (isN o.a S.n.length) 0 o.b o.c o.l.length
  else if o.k = 10 then zr (bif decide ((o.l.length : Int) ≤ 64) then !(o.l.any fun i => !isN i S.n.length) else false) o.a o.b 0 0
  else if o.k = 7 then zr (isN o.a S.d.length) 0 o.b o.c o.l.length
  else if o.k = 12 then zr (decide (1 ≤ o.a)) 0 o.b o.c o.l.length
  else if o.k = 6 then zr true o.a o.b o.c o.l.length
  else false
def reaches (S : Sh) (st : Int) (o : Oq) : Bool :=
  if o.k = 5 then decide (nda S o.b ≤ st)
  else if o.k = 10 then !(o.l.any fun i => decide (st < nda S i))
  else if o.k = 9 then (if st + 2 < nda S o.b then false else decide (nda S o.a ≤ st))
  else if o.k = 2 ∨ o.k = 8 ∨ o.k = 11 then decide (nda S o.a ≤ st)
  else true
/-- The operation ahead. -/
def ahd (ops : List Oq) (p : Nat) : Oq := ops.getD (p - 1) ⟨0, 0, 0, 0, []⟩
def rises (S : Sh) (ops : List Oq) (p : Nat) (o : Oq) : Bool :=
  if p = 0 then false
  else if (ahd ops p).k = 3 then true
  else if (ahd ops p).k = 4 ∨ (ahd ops p).k = 5 then TPure.lt (txa S (ahd ops p).a) (txa S o.a)
  else false
def stands (S : Sh) (ops : List Oq) (b : Bd) (p : Nat) (o : Oq) : Bool :=
  if o.k = 4 ∨ o.k = 5 then rises S ops p o
  else if o.k = 3 then decide (b.ar.el + 1 ≤ 63)
  else if o.k = 7 then decide (b.ar.el + dpa S o.a ≤ 64)
  else if o.k = 6 then (bif decide ((0 : Int) < (b.ou.length : Int)) then b.lt == 0 else false)
  else if o.k = 12 then decide (o.a ≤ b.lt)
  else true
def bks (o : Oq) : List Int := if o.k = 8 then [o.b, o.c].filter (fun i => !(i == 0)) else if o.k = 9 ∨ o.k = 10 then [o.c] else []
def grows (o : Oq) : Int := if o.k = 9 then 2 else if o.k = 10 then o.l.length else if o.k = 11 then 1 else 0
def ins (a : Ar) (o : Oq) : Ar := ⟨a.ow, o.k == 9, a.st + grows o, a.el, if o.k = 9 then a.ls + 1 else a.ls⟩
/-- The blocks of an operation are taken, one after the other. -/
def clm (nb : Nat) (A : Ar) : List Int → List Ar → Option (List Ar)
  | [], H => some H
  | n :: r, H => if n ≤ (nb : Int) ∨ (H.length : Int) ≤ n ∨ (H.getD n.toNat ar0).ow = true then none else clm nb A r (H.set n.toNat A)
/-- An operation's fault, or what is around the blocks behind it. -/
def opf (S : Sh) (nb : Nat) (ops : List Oq) (b : Bd) (H : List Ar) (p : Nat) (o : Oq) : Except Int (List Ar) :=
  if p = 8192 ∨ fits S o = false then .error 2203
  else if reaches S b.ar.st o = false then .error 2201
  else if stands S ops b p o = false then .error 2204
  else match clm nb (ins b.ar o) (bks o) H with
    | none => .error 2205
    | some H' => if 64 < b.ar.st + grows o then .error 2208 else if o.k = 9 ∧ b.ar.ls = 8 then .error 2206 else .ok H'
def pass (b : Bd) (p : Nat) (o : Oq) : Bd :=
  if o.k = 3 then ⟨{ b.ar with el := b.ar.el + 1 }, 0, b.ou ++ [b.lt], b.cl⟩
  else if o.k = 6 then ⟨{ b.ar with el := b.ar.el - 1 }, b.ou.getD (b.ou.length - 1) 0, b.ou.take (b.ou.length - 1), if b.ou.length = 1 ∧ b.cl = 0 then p else b.cl⟩
  else if o.k = 11 then ⟨{ b.ar with st := b.ar.st + 1 }, b.lt + 1, b.ou, b.cl⟩
  else if o.k = 12 then ⟨{ b.ar with st := b.ar.st - o.a }, b.lt - o.a, b.ou, b.cl⟩
  else b
/-- The operations from place p on. -/
def gos (S : Sh) (nb : Nat) (ops : List Oq) : Nat → List Oq → Bd → List Ar → Except (Int × Int) (Bd × List Ar)
  | p, [], b, H => .ok (b, H)
  | p, o :: r, b, H => match opf S nb ops b H p o with
    | .error c => .error (p, c)
    | .ok H' => gos S nb ops (p + 1) r (pass b p o) H'
/-- One element and nothing beside it. -/
def item (ops : List Oq) (cl : Int) : Bool :=
  if ops = [] then false else if (ops.getD 0 ⟨0, 0, 0, 0, []⟩).k = 7 then (ops.length : Int) == 1 else if (ops.getD 0 ⟨0, 0, 0, 0, []⟩).k = 3 then cl == (ops.length : Int) - 1 else false
/-- The places of an update from number i on. -/
def upd (n : Nat) : Int → Nat → List Int → Int × Int
  | _, _, [] => (0, 0)
  | m, i, x :: r => if x < m ∨ (n : Int) ≤ x then ((i : Int), 2207) else upd n (x + 1) (i + 1) r
/-- A block: its fault, or what is around the blocks behind it. -/
def blf (S : Sh) (nb : Nat) (k : Bk) (H : List Ar) : Except (Int × Int) (List Ar) :=
  if (H.getD nb ar0).ow = false then .error (0, 2205)
  else if k.d ≠ (H.getD nb ar0).st then .error (0, 2208)
  else match gos S nb k.o 0 k.o ⟨H.getD nb ar0, 0, [], 0⟩ H with
    | .error q => .error q
    | .ok (b, H') =>
      if b.ou ≠ [] ∨ 0 < b.lt then .error ((k.o.length : Int), 2204)
      else if b.ar.lp = true ∧ item k.o b.cl = false then .error (0, 2206)
      else if (upd k.o.length 0 0 k.u).2 ≠ 0 then .error (upd k.o.length 0 0 k.u) else .ok H'
/-- The blocks from number i on. -/
def bls (S : Sh) : Nat → List Bk → List Ar → Int × Int × Int
  | _, [], _ => (0, 0, 0)
  | i, k :: r, H => match blf S i k H with
    | .error q => ((i : Int), q)
    | .ok H' => bls S (i + 1) r H'
/-- How many values a code needs. -/
def need (L : List Ins) : Int := L.foldl (fun m x => if x.1 = 6 then max m (x.2 + 1) else m) 0
/-- The first one that may not be, or is one too many. -/
def ixf {α : Type} (f : α → Bool) : Nat → List α → Int
  | _, [] => -1
  | i, x :: r => if f x = true then ixf f (i + 1) r else (i : Int)
def fwr {α : Type} (lim : Nat) (f : α → Bool) (l : List α) : Int := if ixf f 0 (l.take lim) < 0 ∧ lim < l.length then (lim : Int) else ixf f 0 (l.take lim)
def elm (t : T) : Bool := !(TPure.eqB t.g ByteArray.empty) && decide (TMeas.ck [t] = 0)
def shf (x : Pg) : Int × Int :=
  if 0 ≤ fwr 16384 STx.tg x.t then (fwr 16384 STx.tg x.t, 2200)
  else if 0 ≤ fwr 8192 (fun L => decide (CPu.ck L (x.t.length : Int) 64 = 0)) x.c then (fwr 8192 (fun L => decide (CPu.ck L (x.t.length : Int) 64 = 0)) x.c, 2201)
  else if 0 ≤ fwr 4096 elm x.s then (fwr 4096 elm x.s, 2202)
  else (0, 0)
def shd (x : Pg) : Sh := ⟨x.t, x.c.map need, x.s.map fun t => (TMeas.dp [t] : Int)⟩
def hm0 (n : Nat) : List Ar := (List.replicate n ar0).set 0 ⟨true, false, 1, 0, 0⟩
/-- What Verify answers. -/
def vf (x : Pg) : Int × Int × Int :=
  if (shf x).2 ≠ 0 then (0, shf x)
  else if x.b = [] ∨ 8192 < x.b.length then (0, 0, 2205)
  else bls (shd x) 0 x.b (hm0 x.b.length)
end Go.Proofs.Ytgknjjaemjkloaa.BPl

/- Programs read, plainly. -/
import Derived.Test.YtgknjjaemjkloaaYPl
namespace Go.Proofs.Ytgknjjaemjkloaa.YRd
open Go.Proofs.Ytgknjjaemjkloaa.Leb Go.Proofs.Ytgknjjaemjkloaa.YPl
open Go.Proofs.Ytgknjjaemjkloaa.TBase (T)
set_option linter.unusedVariables false

/-- What a reader answers at a place: what it read and the place behind it, or the place of a fault. -/
abbrev Rs (α : Type) := Except Nat (α × Nat)
def bnd {α β : Type} (a : Rs α) (f : α → Nat → Rs β) : Rs β := match a with
  | .ok (x, p) => f x p
  | .error q => .error q
def roct (b : By) (p : Nat) : Rs Int := if h : p < b.length then .ok ((b[p].toNat : Int), p + 1) else .error p
def rwhl (b : By) (p : Nat) : Rs Int := let t := tk b p; if t.2.2 = 0 then .ok (unz t.1, t.2.1) else .error p
def rcnt (lim : Nat) (b : By) (p : Nat) : Rs Nat := let t := tk b p; if t.2.2 = 0 ∧ t.1 ≤ lim then .ok (t.1, t.2.1) else .error p
def sub (b : By) (p n : Nat) : ByteArray := ⟨((b.drop p).take n).toArray⟩
def rtxt (b : By) (p : Nat) : Rs ByteArray := bnd (rcnt 4096 b p) fun n q => if b.length < q + n then .error p else if UBase.verr (sub b q n) = 0 then .ok (sub b q n, q + n) else .error p
/-- So many, one behind the other. -/
def rmany {α : Type} (f : Nat → Rs α) : Nat → Nat → Rs (List α)
  | 0, p => .ok ([], p)
  | n + 1, p => bnd (f p) fun x q => bnd (rmany f n q) fun l r => .ok (x :: l, r)
def rlst {α : Type} (lim : Nat) (f : Nat → Rs α) (b : By) (p : Nat) : Rs (List α) := bnd (rcnt lim b p) fun n q => rmany f n q
def rins (b : By) (p : Nat) : Rs Ins := bnd (roct b p) fun x q => bnd (rwhl b q) fun y r => .ok ((x, y), r)
def ratt (b : By) (p : Nat) : Rs (ByteArray × ByteArray) := bnd (rtxt b p) fun x q => bnd (rtxt b q) fun y r => .ok ((x, y), r)
def ropc (b : By) (p : Nat) : Rs Oq := bnd (roct b p) fun k q => bnd (rwhl b q) fun x q => bnd (rwhl b q) fun y q => bnd (rwhl b q) fun z q => bnd (rlst 64 (rwhl b) b q) fun l q => .ok (⟨k, x, y, z, l⟩, q)
def rblk (b : By) (p : Nat) : Rs Bk := bnd (rcnt 64 b p) fun d q => bnd (rlst 8192 (ropc b) b q) fun o q => bnd (rlst 8192 (rwhl b) b q) fun u q => .ok (⟨d, o, u⟩, q)
/-- Trees: the number of nodes goes along. -/
abbrev Rt (α : Type) := Except Nat (α × Nat × Nat)
def rmanyT (f : Nat → Nat → Rt T) : Nat → Nat → Nat → Rt (List T)
  | 0, p, k => .ok ([], p, k)
  | n + 1, p, k => match f p k with
    | .error q => .error q
    | .ok (x, p, k) => match rmanyT f n p k with
      | .error q => .error q
      | .ok (l, p, k) => .ok (x :: l, p, k)
/-- A node; m: how many depths are left (65 at depth 1 .. 0 refuses). -/
def rnd (b : By) : Nat → Nat → Nat → Rt T
  | 0, p, k => .error p
  | m + 1, p, k => if 4096 < k + 1 then .error p else match rtxt b p with
    | .error q => .error q
    | .ok (g, q) => if g.size = 0 then (match rtxt b q with
        | .error r => .error r
        | .ok (s, r) => .ok (.mk ⟨#[]⟩ s [] [], r, k + 1))
      else match rlst 4096 (ratt b) b q with
        | .error r => .error r
        | .ok (n, r) => if TMeas.ck [.mk g ⟨#[]⟩ n []] = 0 then (match rcnt 4096 b r with
            | .error z => .error z
            | .ok (c, z) => match rmanyT (rnd b m) c z (k + 1) with
              | .error z => .error z
              | .ok (l, z, k) => .ok (.mk g ⟨#[]⟩ n l, z, k))
          else .error p
def rlstT (lim : Nat) (f : Nat → Nat → Rt T) (b : By) (p k : Nat) : Rt (List T) := match rcnt lim b p with
  | .error q => .error q
  | .ok (n, q) => rmanyT f n q k
def rprg (b : By) : Rs Pg := bnd (roct b 0) fun v q => if v = 1 then bnd (rlst 16384 (rtxt b) b q) fun t q => bnd (rlst 8192 (rlst 8192 (rins b) b) b q) fun c q => (match rlstT 4096 (fun p _ => rnd b 64 p 0) b q 0 with
  | .error q => .error q
  | .ok (s, q, _) => bnd (rlst 8192 (rblk b) b q) fun k q => if q < b.length then .error q else .ok (⟨t, c, s, k⟩, q)) else .error 0
/-- What Decode answers: place and error, or a program. -/
def dec (b : By) : Except (Nat × Nat) Pg := if 1048576 < b.length then .error (0, 2101) else match rprg b with
  | .error q => .error (q, 2100)
  | .ok (p, _) => .ok p
end Go.Proofs.Ytgknjjaemjkloaa.YRd

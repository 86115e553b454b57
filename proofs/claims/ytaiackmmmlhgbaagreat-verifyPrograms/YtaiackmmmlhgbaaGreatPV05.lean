import Derived.Laws.AppendOwnNone
import Derived.Laws.BitsAllLaws
import Derived.Maps.AppendAt
import Derived.Test.YtaiackmmmlhgbaaGreatPV00
import Derived.Test.YtaiackmmmlhgbaaGreatPV01
import Derived.Test.YtaiackmmmlhgbaaGreatPV02
open Go.Proofs.Tryz
set_option linter.unusedVariables false
namespace Go.Proofs.YtaiackmmmlhgbaaGreat.STx
open Go.RowKit UBase UValid UOwn
def tg (s : ByteArray) : Bool := decide (s.size <= 4096) && (verr s == 0)
theorem iter_below (w : World) (s : ByteArray) (p : Nat) : Below w.heap.size w (w.iter s p) := (Below.refl _ w).alloc (Nat.le_refl _) _
theorem verr_cases (s : ByteArray) : verr s = 0 \/ verr s = 300 := by
 cases h : bad s 0 with
 | none => exact .inl (verr_none h).2
 | some i => exact .inr (verr_some h).2
theorem tmb_c (s : ByteArray) (hs : s.size <= 140737488351232) (w : World) :
  Calls prog 85 #[.string s] w fun r w' => r = .returned (.bool (tg s)) /\ Below w.heap.size w w' := by
 have c71 := valid_c s (by omega) w
 by_cases h : s.size <= 4096
 ·have e : tg s = (verr s == 0) := by simp [tg, h]
  rw [e]
  have hv := verr_cases s
  generalize verr s = x at *
  generalize vat s = y at *
  have h' : decide ((4096 : Int) < (s.size : Int)) = false := decide_eq_false (by omega)
  clear e
  rcases hv with rfl | rfl
  ·go_enter func85, ntmps85
   go_wp2_with (first | (go_at_call 107; refine c71.mono ?_; rintro e w' ⟨rfl, p, rfl⟩))
   go_ret
   exact ⟨rfl, iter_below _ _ _⟩
  ·go_enter func85, ntmps85
   go_wp2_with (first | (go_at_call 107; refine c71.mono ?_; rintro e w' ⟨rfl, p, rfl⟩))
   go_ret
   exact ⟨rfl, iter_below _ _ _⟩
 ·have e : tg s = false := by simp [tg, h]
  rw [e]
  have h' : decide ((4096 : Int) < (s.size : Int)) = true := decide_eq_true (by omega)
  clear c71 e
  go_enter func85, ntmps85
  go_wp2_with fail
  go_ret
  exact ⟨rfl, Below.refl _ _⟩
end Go.Proofs.YtaiackmmmlhgbaaGreat.STx
namespace Go.Proofs.YtaiackmmmlhgbaaGreat.YAp
open Go.RowKit
theorem app_seen {P : Program} {w : World} {ops : Array Oper} {rest : List Oper} {o : Oper} {a : Act} {Q : Exit -> Act -> World -> Prop} (hgd : o.guard = none) (s x : Operand) (t : TypeId)
  (ho : o.op = .call { callee := .builtin .append, args := #[s, x], argTypes := #[t, t] })
  (base : Nat) (e : TypeId) (i : TypeInfo) (z : Value) (size bytes : Nat) (ht : P.underlying t = some (.slice e)) (hi : P.info? e = some i) (hz : i.zero = some z)
  (hsize : i.size = size) (hby : i.bytes = bytes) (hzs : z.cells.size = size) (hsz : 0 < size)
  (v : Value) (n : Nat) (xs : List Value) (hs : a.eval s = v) (hown : w.ownsRow base e size v n xs)
  (ax : Option Addr) (m cap2 : Nat) (news : List Value) (hx : a.eval x = .slice ax m cap2) (h2 : (ax = none /\ m = 0 /\ cap2 = 0) \/ ∃ ad : Addr, ax = some ad /\ ∀ j u, news[j]? = some u -> w.cell? (ad.add j) = some u) (hl : news.length = m * size) (h1 : ∀ u ∈ news, u.oneCell' = true)
  (h63 : n + m <= maxLen) (hbytes : (n + m) * bytes <= 140737488355328) (hbase : base <= w.heap.size)
  (h : ∀ v' w', w'.ownsRow base e size v' (n + m) (xs ++ news) -> w.grownBy w' v.ownBlock -> (v'.ownBlock = v.ownBlock \/ v'.ownBlock = some w.heap.size) -> wpList P ops Q rest (a.put o.dst v') w') :
  wpList P ops Q (o :: rest) a w := by
 rcases h2 with ⟨rfl, rfl, rfl⟩ | ⟨ad, rfl, hc⟩
 ·obtain rfl : news = [] := List.eq_nil_of_length_eq_zero (by omega)
  refine wpList_append_own_none hgd s x t ho base e i size ht hi v n xs hs hown hx (h v w ?_ ⟨rfl, rfl, rfl, Nat.le_refl _, fun _ _ _ => rfl⟩ (.inl rfl))
  simpa using hown
 ·exact wpList_append_own_at _ hgd s x t ho base e i z size bytes ht hi hz hsize hby hzs hsz v n xs hs hown ad m cap2 news hx hl hc h1 h63 hbytes hbase (fun v' w' k1 k2 _ k4 => h v' w' k1 k2 k4)
end Go.Proofs.YtaiackmmmlhgbaaGreat.YAp

import Derived.LoopIn
import Derived.LoopNIn
import Derived.OwnWalkIn
import Derived.RangeFuncBound
import Derived.RangeFuncCalls
import Derived.RangeFuncLeaves
import Derived.RangeFuncNested
import Derived.Shelf.Abstract
import Derived.Shelf.RegionOpen
import Derived.TacticsInMore
import Derived.Test.YthjbknncbhkinaaGreatDoorPS00
import Derived.Test.YthjbknncbhkinaaGreatDoorPS04
set_option linter.unusedVariables false
namespace Go.Proofs.YthjbknncbhkinaaGreatDoor.Walk
open Go.RowKit Go.Shelf Base
attribute [local go_sem] Oper.semAt_some
def plL : Nat -> List C -> List (Nat × C)
 | _, [] => []
 | d, .mk k b i s n l :: cs => (d, .mk k b i s n l) :: plL (d + 1) l ++ plL d cs
def pl : Nat -> C -> List (Nat × C)
 | d, .mk k b i s n l => (d, .mk k b i s n l) :: plL (d + 1) l
theorem plL_nil (d : Nat) : plL d [] = [] := by rw [plL]
theorem plL_cons (d : Nat) (c : C) (cs : List C) : plL d (c :: cs) = pl d c ++ plL d cs := by
 obtain ⟨k, b, i, s, n, l⟩ := c
 rw [plL, pl]
theorem plL_append (d : Nat) (a b : List C) : plL d (a ++ b) = plL d a ++ plL d b := by
 induction a with
 | nil => simp [plL]
 | cons c cs ih => simp [plL_cons, ih]
theorem plL_take (d : Nat) (l : List C) (q : Nat) (h : q < l.length) : plL d (l.take (q + 1)) = plL d (l.take q) ++ pl d l[q] := by
 rw [List.take_add_one, List.getElem?_eq_getElem h, plL_append]
 show _ ++ plL d [l[q]] = _
 simp only [plL_cons, plL_nil, List.append_nil]
theorem plL_pre (d : Nat) (l : List C) (q : Nat) : plL d (l.take q) <+: plL d l := by
 refine ⟨plL d (l.drop q), ?_⟩
 rw [<- plL_append, List.take_append_drop]
theorem room_none (k : Nat) : Fence.wide.room k := fun d h => by cases h
theorem round_any {m m' : Nat} {P : Program} {l : Nat} {f : FuncId} {tmps : Array Value} {assign body : Code} {w : World} {R : Ending -> World -> Prop}
  (h : RoundIn Fence.wide m P l f tmps assign body w R) : RoundIn Fence.wide m' P l f tmps assign body w R := ⟨h.1, fun c cs _ => h.2 c cs (room_none _)⟩
theorem yield_any {m : Nat} (m' : Nat) {P : Program} {l : Nat} {args : Array Value} {W : World} {R : Ending -> World -> Prop} (h : YieldAt Fence.wide m P l args W R) : YieldAt Fence.wide m' P l args W R := by
 obtain ⟨fn, tmps, assign, body, hy, hR⟩ := h
 exact ⟨fn, tmps, assign, body, hy, round_any hR⟩
def Al (w0 : World) : Type := { x : Nat × Value × C // ∃ m, In false All w0 m x.2.1 x.2.2 }
def pr {w0 : World} (x : Al w0) : Nat × C := (x.1.1, x.1.2.2)
def Kp (n0 n1 : Nat) (W W' : World) : Prop := Below n0 W W' /\ ∀ b c t fz, n1 <= b -> W.heap[b]? = some (.cells c t fz) -> W'.heap[b]? = some (.cells c t fz)
theorem Kp.trans {n0 n1 : Nat} {A B D : World} (h : Kp n0 n1 A B) (k : Kp n0 n1 B D) : Kp n0 n1 A D := ⟨h.1.trans k.1, fun b c t fz hb hc => k.2 b c t fz hb (h.2 b c t fz hb hc)⟩
theorem Kp.of_below {n0 n1 : Nat} {A B : World} (h : Below A.heap.size A B) (hn : n0 <= A.heap.size) : Kp n0 n1 A B :=
 ⟨h.mono hn, fun b c t fz _ hc => (h.block b (Array.getElem?_eq_some_iff.1 hc).1).trans hc⟩
theorem Kp.book {n0 n1 : Nat} {w : World} (hn : n0 <= w.heap.size) (W : World) (l : Nat) (o o' : Obj) (hl : w.heap.size <= l) (h : W.heap[l]? = some o) (ho : o.isCells = false) (hw : o.isWalk = false) : Kp n0 n1 W (W.putObj l o') := by
 refine ⟨belowK_b hn W l o o' hl h ho hw, fun b c t fz _ hc => ?_⟩
 by_cases e : b = l
 ·subst e
  rw [h] at hc
  cases hc
  cases ho
 ·rw [World.putObj_heap_other (fun h => e h)]
  exact hc
end Go.Proofs.YthjbknncbhkinaaGreatDoor.Walk

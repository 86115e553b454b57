import Derived.Test.YthjbknncbhkinaaGreatDoorPS33
import Derived.Test.YthjbknncbhkinaaGreatDoorPS34
open Go.Proofs.Tryz
set_option linter.unusedVariables false
namespace Go.Proofs.YthjbknncbhkinaaGreatDoor.Measure
open Go.RowKit Go.Shelf Base Walk Fault
attribute [local go_sem] Oper.semAt_some
def ms : Nat -> Nat -> List (Nat × C) -> Int × Int × Int
 | D, k, [] => (D, k, 0)
 | D, k, (d, c) :: r => if ft c d (k + 1 : Nat) = 0 then ms (max D d) (k + 1) r else (0, 0, ft c d (k + 1 : Nat))
theorem parts_in (n : Nat) (v0 v1 v2 v3 v4 v5 : Value) (w : World) :
  CallsIn Fence.wide n prog 97 #[.agg #[v0, v1, v2, v3, v4, v5]] w fun e w' => e = .returned (.func (.func 126) #[] #[.pointer (some ⟨w.heap.size, 0, none⟩)]) /\ w' = w.alloc (.cells #[v0, v1, v2, v3, v4, v5] 46) := by
 refine callsIn_of_wp func97 rfl trivial ?_ rfl
 simp only [ntmps97, List.size_toArray, List.length_cons, List.length_nil, Nat.reduceAdd, Nat.reduceSub, Array.replicate_succ, Array.replicate_zero, List.push_toArray, List.append_toArray, List.nil_append, List.cons_append]
 gi_wp2
 go_ret
 exact ⟨rfl, rfl⟩
theorem heap_alloc_at (w : World) (o : Obj) (k : Nat) (h : k = w.heap.size) : (w.alloc o).heap[k]? = some o := by subst h; exact heap_alloc_new w o
theorem keeps_below {B : Nat} {W W' : World} (h : Below W.heap.size W W') : KeepsFrom B W W' := ⟨h.size, fun k o _ hk _ => (h.block k (Array.getElem?_eq_some_iff.1 hk).1).trans hk⟩
theorem Kp.set {n0 n1 : Nat} (W : World) (B : Nat) (u : Value) (h0 : n0 <= B) (h1 : B < n1) : Kp n0 n1 W (W.setCell ⟨B, 0, none⟩ u) :=
 ⟨(Below.refl _ W).setCell (p := ⟨B, 0, none⟩) h0 u, fun b c t fz hb hc => by rw [Below.heap_setCell _ _ _ _ (by simp; omega)]; exact hc⟩
end Go.Proofs.YthjbknncbhkinaaGreatDoor.Measure

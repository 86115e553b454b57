/- A row gone through from its end: contracts of slices.Backward and its closure. -/
import Derived.Test.YtkjgbmoimobgaaaILen
import Derived.RangeFuncNested
import Derived.RangeFuncBound
import Derived.RangeFuncCalls
import Derived.RangeFuncLeaves
import Derived.Shelf.Abstract
import Derived.Shelf.RegionOpen
import Derived.OwnWalkIn
import Derived.TacticsInMore
import Derived.LoopNIn
import Derived.LoopIn
namespace Go.Proofs.Ytkjgbmoimobgaaa.IBack
open Go.RowKit Go.Shelf Go.Proofs.Ytkjgbmoimobgaaa.IPure Go.Proofs.Ytkjgbmoimobgaaa.IBase
set_option linter.unusedVariables false
attribute [local go_sem] Oper.semAt_some

/-- What lay below n1 is as it was, but for block P. -/
structure Kq (n1 P : Nat) (W W' : World) : Prop where
  size : W.heap.size ≤ W'.heap.size
  block : ∀ b, b < n1 → b ≠ P → W'.heap[b]? = W.heap[b]?
theorem Kq.refl (n1 P : Nat) (W : World) : Kq n1 P W W := ⟨Nat.le_refl _, fun _ _ _ => rfl⟩
theorem Kq.trans {n1 P : Nat} {X Y Z : World} (h : Kq n1 P X Y) (k : Kq n1 P Y Z) : Kq n1 P X Z := ⟨Nat.le_trans h.size k.size, fun b h1 h2 => (k.block b h1 h2).trans (h.block b h1 h2)⟩
theorem Kq.book {n1 P : Nat} {w : World} (hn : n1 ≤ w.heap.size) (W : World) (l : Nat) (o o' : Obj) (hl : w.heap.size ≤ l) (h : W.heap[l]? = some o) (_ : o.isCells = false) (_ : o.isWalk = false) : Kq n1 P W (W.putObj l o') :=
  ⟨by simp [World.putObj], fun b h1 _ => World.putObj_heap_other (by omega)⟩
theorem Kq.of_below {n1 P : Nat} {W W' : World} (h : Below n1 W W') : Kq n1 P W W' := ⟨h.size, fun b h1 _ => h.block b h1⟩
theorem Kq.cell {n1 P : Nat} {W W' : World} (h : Kq n1 P W W') {b o : Nat} (h1 : b < n1) (h2 : b ≠ P) : W'.cell? ⟨b, o, none⟩ = W.cell? ⟨b, o, none⟩ := World.cell?_of_block (w := W) (h.block b h1 h2)
/-- The places of k rounds. -/
def dw (n k : Nat) : List Nat := (List.range k).map fun j => n - 1 - j
theorem dw_succ (n k : Nat) : dw n (k + 1) = dw n k ++ [n - 1 - k] := by simp [dw, List.range_succ]
theorem dw_len (n k : Nat) : (dw n k).length = k := by simp [dw]
theorem back_in (n : Nat) (a : Option Addr) (len cap : Nat) (w : World) :
    CallsIn Fence.wide n Try.prog 23 #[.slice a len cap] w fun e w' => e = .returned (.func (.func 30) #[] #[.pointer (some ⟨w.heap.size, 0, none⟩)]) ∧ w' = w.alloc (.cells #[.slice a len cap] 22) := by
  refine callsIn_of_wp Try.func23 rfl trivial ?_ rfl
  simp only [Try.ntmps23, List.size_toArray, List.length_cons, List.length_nil, Nat.reduceAdd, Nat.reduceSub, Array.replicate_succ, Array.replicate_zero, List.push_toArray, List.append_toArray, List.nil_append, List.cons_append]
  gi_wp2
  go_ret
  exact ⟨rfl, rfl⟩
set_option maxRecDepth 100000 in
set_option maxHeartbeats 2000000 in
theorem back_stops (m n1 P Bs b len cap : Nat) (e : Nat → Int) (w : World) (hn1 : n1 ≤ w.heap.size) (h1 : Bs < n1) (h2 : Bs ≠ P) (h3 : b < n1) (h4 : b ≠ P) (hlen : len ≤ 17592186044416) (hcap : len ≤ cap)
    (hB : w.cell? ⟨Bs, 0, none⟩ = some (.slice (some ⟨b, 0, none⟩) len cap)) (hc : ∀ j, j < len → w.cell? ⟨b, j, none⟩ = some (.int .i64 (e j))) :
    SeqStopsK Fence.wide m Try.prog 30 #[.pointer (some ⟨Bs, 0, none⟩)] (fun x : Fin len => #[.int .i64 (x.val : Int), .int .i64 (e x.val)]) (Kq n1 P) (fun ys => ys.map (·.val) = dw len len) (fun _ => True) len w := by
  intro l J Jx W hW hJ hJx hY h0
  have hdd : ∀ k : Nat, (Fence.wide.depth.isSome = true → 1 ≤ k) := fun k h => by cases h
  have hB' := (hW.cell (p := ⟨Bs, 0, none⟩) (by dsimp only; omega)).trans hB
  have hc' : ∀ j, j < len → W.cell? ⟨b, j, none⟩ = some (.int .i64 (e j)) := fun j hj => (hW.cell (p := ⟨b, j, none⟩) (by dsimp only; omega)).trans (hc j hj)
  clear hB hc hJ hJx
  show CallsIn Fence.wide m Try.prog 30 #[.func (.yield l) #[] #[], .pointer (some ⟨Bs, 0, none⟩)] W _
  refine callsIn_of_wp Try.func30 rfl trivial ?_ rfl
  simp only [Try.ntmps30, List.size_toArray, List.length_cons, List.length_nil, Nat.reduceAdd, Nat.reduceSub, Array.replicate_succ, Array.replicate_zero, List.push_toArray, List.append_toArray, List.nil_append, List.cons_append]
  gi_wp2
  gi_loopw [3] (fun i wr => ∃ (r : Nat) (ys : List (Fin len)), r ≤ len ∧ i = .int .i64 ((r : Int) - 1) ∧ ys.map (·.val) = dw len (len - r) ∧ J ys wr ∧ Kq n1 P W wr) (fun i _ => (intOf i + 1).toNat)
  case atStart => exact ⟨len, [], Nat.le_refl _, rfl, by simp [dw], h0, Kq.refl _ _ _⟩
  case round =>
    obtain ⟨r, ys, hr, rfl, hys, hJs, hk⟩ := hrel
    cases r with
    | zero =>
      have e1 : (((0 : Nat) : Int) - 1) = -1 := by omega
      rw [e1]
      have HY2 : Hid (ys.map (·.val) = dw len len) := hys
      clear hY hys
      gi_wp2
      go_end0
      exact ⟨⟨_, rfl⟩, .inl ⟨ys, HY2.out, hJs⟩⟩
    | succ r =>
      have e1 : (((r + 1 : Nat) : Int) - 1) = (r : Int) := by omega
      rw [e1]
      have hyl : ys.length = len - (r + 1) := by
        have := congrArg List.length hys
        rwa [List.length_map, dw_len] at this
      obtain ⟨fn, tmps, assign, body, hy, hR⟩ := hY ys ⟨r, by omega⟩ wr hJs (by omega)
      dsimp only at hy
      have hB2 := (hk.cell (o := 0) h1 h2).trans hB'
      have hc2 := (hk.cell (o := r) h3 h4).trans (hc' r (by omega))
      have HY2 : Hid ((ys ++ [(⟨r, by omega⟩ : Fin len)]).map (·.val) = dw len (len - r)) := by
        show _ = _
        rw [List.map_append, hys, show len - r = (len - (r + 1)) + 1 by omega, dw_succ]
        simp
        omega
      have d0 : decide ((0 : Int) ≤ (r : Int)) = true := decide_eq_true (by omega)
      clear hys hY hyl e1
      gi_wp2
      refine ⟨hdd _, hR.mono ?_⟩
      rintro e W3 (⟨rfl, hJ3, hk3⟩ | ⟨rfl, hJx3⟩)
      · gi_wp2
        go_roundw
        case rel => exact ⟨r, _, by omega, rfl, HY2.out, hJ3, hk.trans hk3⟩
        case measure => simp [intOf]
      · gi_wp2
        refine bodyPost_ret (results_none rfl _ _ _) rfl ?_
        exact ⟨⟨_, rfl⟩, .inr ⟨_, trivial, hJx3⟩⟩
end Go.Proofs.Ytkjgbmoimobgaaa.IBack

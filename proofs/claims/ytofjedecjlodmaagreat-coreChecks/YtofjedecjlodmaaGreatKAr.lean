/- What lies around a node: isBare, isTooDeep, and the five kinds (package core). -/
import Derived.Test.YtofjedecjlodmaaGreatKFd
import Derived.Deep.RegionHeld3
namespace Go.Proofs.YtofjedecjlodmaaGreat.KAr
open Go.RowKit Go.Proofs.YtofjedecjlodmaaGreat.Base Go.Proofs.YtofjedecjlodmaaGreat.EPure Go.Proofs.YtofjedecjlodmaaGreat.KBase Go.Proofs.YtofjedecjlodmaaGreat.KSh
open Go.Proofs.YtofjedecjlodmaaGreat.SFit (ne ret_bool)
open Go.Proofs.YtofjedecjlodmaaGreat.XBase (frozen_box)
set_option linter.unusedVariables false

/-- A node's seven cells. -/
abbrev cv (k : Int) (t : ByteArray) (a1 : Option Addr) (n1 c1 : Nat) (a2 : Option Addr) (n2 c2 : Nat) (a3 : Option Addr) (n3 c3 : Nat) (a4 : Option Addr) (n4 c4 : Nat) (a5 : Option Addr) (n5 c5 : Nat) : Value :=
  .agg #[.int .i64 k, .string t, .slice a1 n1 c1, .slice a2 n2 c2, .slice a3 n3 c3, .slice a4 n4 c4, .slice a5 n5 c5]
abbrev av (s e l : Int) : Value := .agg #[.int .i64 s, .int .i64 e, .int .i64 l]
def bare (t : ByteArray) (n1 n2 n3 n4 n5 : Nat) : Bool := (t.size == 0) && (((n1 : Int) == 0) && (((n2 : Int) == 0) && (((n3 : Int) == 0) && (((n4 : Int) == 0) && ((n5 : Int) == 0)))))
set_option maxRecDepth 20000 in
set_option maxHeartbeats 1600000 in
theorem bare_c (k : Int) (t : ByteArray) (a1 : Option Addr) (n1 c1 : Nat) (a2 : Option Addr) (n2 c2 : Nat) (a3 : Option Addr) (n3 c3 : Nat) (a4 : Option Addr) (n4 c4 : Nat) (a5 : Option Addr) (n5 c5 : Nat) (w : World) :
    Calls Tryz.prog 94 #[cv k t a1 n1 c1 a2 n2 c2 a3 n3 c3 a4 n4 c4 a5 n5 c5] w fun e w' => e = .returned (.bool (bare t n1 n2 n3 n4 n5)) ∧ Below w.heap.size w w' := by
  have b0 : Below w.heap.size w (w.alloc (.cells #[.int .i64 k, .string t, .slice a1 n1 c1, .slice a2 n2 c2, .slice a3 n3 c3, .slice a4 n4 c4, .slice a5 n5 c5] 40)) := (Below.refl _ w).alloc (Nat.le_refl _) _
  unfold bare
  have hne := ne t
  suffices H : ∀ (x0 x1 x2 x3 x4 x5 : Bool), t.toList.isEmpty = x0 → ((n1 : Int) == 0) = x1 → ((n2 : Int) == 0) = x2 → ((n3 : Int) == 0) = x3 → ((n4 : Int) == 0) = x4 → ((n5 : Int) == 0) = x5 → Calls Tryz.prog 94 #[cv k t a1 n1 c1 a2 n2 c2 a3 n3 c3 a4 n4 c4 a5 n5 c5] w fun e w' => e = .returned (.bool (x0 && (x1 && (x2 && (x3 && (x4 && x5)))))) ∧ Below w.heap.size w w' by
    have := H _ _ _ _ _ _ rfl rfl rfl rfl rfl rfl
    rw [hne] at this
    exact this
  clear hne
  intro x0 x1 x2 x3 x4 x5 h0 h1 h2 h3 h4 h5
  cases x0 with
  | false => (go_enter Tryz.func94, Tryz.ntmps94; go_wp2_with fail; go_ret; exact ⟨ret_bool rfl, b0⟩)
  | true => cases x1 with
    | false => (go_enter Tryz.func94, Tryz.ntmps94; go_wp2_with fail; go_ret; exact ⟨ret_bool rfl, b0⟩)
    | true => cases x2 with
      | false => (go_enter Tryz.func94, Tryz.ntmps94; go_wp2_with fail; go_ret; exact ⟨ret_bool rfl, b0⟩)
      | true => cases x3 with
        | false => (go_enter Tryz.func94, Tryz.ntmps94; go_wp2_with fail; go_ret; exact ⟨ret_bool rfl, b0⟩)
        | true => cases x4 with
          | false => (go_enter Tryz.func94, Tryz.ntmps94; go_wp2_with fail; go_ret; exact ⟨ret_bool rfl, b0⟩)
          | true => (go_enter Tryz.func94, Tryz.ntmps94; go_wp2_with fail; go_ret; exact ⟨ret_bool rfl, b0⟩)
def deep (s e l : Int) : Bool := decide (64 < s) || (decide (63 < e) || decide (8 < l))
set_option maxRecDepth 20000 in
theorem deep_c (s e l : Int) (w : World) : Calls Tryz.prog 59 #[av s e l] w fun x w' => x = .returned (.bool (deep s e l)) ∧ Below w.heap.size w w' := by
  have b0 : Below w.heap.size w (w.alloc (.cells #[.int .i64 s, .int .i64 e, .int .i64 l] 46)) := (Below.refl _ w).alloc (Nat.le_refl _) _
  unfold deep
  suffices H : ∀ (x0 x1 x2 : Bool), decide (64 < s) = x0 → decide (63 < e) = x1 → decide (8 < l) = x2 → Calls Tryz.prog 59 #[av s e l] w fun x w' => x = .returned (.bool (x0 || (x1 || x2))) ∧ Below w.heap.size w w' from H _ _ _ rfl rfl rfl
  intro x0 x1 x2 h0 h1 h2
  cases x0
  all_goals try cases x1
  all_goals
    go_enter Tryz.func59, Tryz.ntmps59
    go_wp2_with fail
    go_ret
    exact ⟨ret_bool rfl, b0⟩
theorem heap_setCell_same (w : World) (B j : Nat) (cs : Array Value) (t : TypeId) (v : Value) (h : w.heap[B]? = some (.cells cs t (0, 0))) : (w.setCell ⟨B, j, none⟩ v).heap[B]? = some (.cells (cs.setIfInBounds j v) t (0, 0)) := by
  simp [World.setCell, Array.getElem?_modify, h]
theorem three_new (w : World) (c0 c1 c2 : Array Value) (t0 t1 t2 : TypeId) : ∃ W, ((w.alloc (.cells c0 t0)).alloc (.cells c1 t1)).alloc (.cells c2 t2) = W ∧ Below w.heap.size w W ∧ W.heap.size = w.heap.size + 3 ∧ W.heap[w.heap.size]? = some (.cells c0 t0 (0, 0)) ∧ W.heap[w.heap.size + 1]? = some (.cells c1 t1 (0, 0)) ∧ W.heap[w.heap.size + 1 + 1]? = some (.cells c2 t2 (0, 0)) := by
  refine ⟨_, rfl, (((Below.refl _ w).alloc (Nat.le_refl _) _).alloc (by simp) _).alloc (by simp; omega) _, by simp, ?_, ?_, ?_⟩
  · rw [Below.heap_alloc _ _ _ (by simp; omega), Below.heap_alloc _ _ _ (by simp)]; exact heap_alloc_new w _
  · have := heap_alloc_new (w.alloc (.cells c0 t0)) (.cells c1 t1)
    rw [World.size_alloc] at this
    rw [Below.heap_alloc _ _ _ (by simp)]
    exact this
  · have := heap_alloc_new ((w.alloc (.cells c0 t0)).alloc (.cells c1 t1)) (.cells c2 t2)
    rw [World.size_alloc, World.size_alloc] at this
    exact this
theorem three_box {w : World} {B : Nat} {v0 v1 v2 : Value} {t : TypeId} (h : w.heap[B]? = some (.cells #[v0, v1, v2] t (0, 0))) :
    w.cell? ⟨B, 0, none⟩ = some v0 ∧ w.cell? ⟨B, 1, none⟩ = some v1 ∧ w.cell? ⟨B, 2, none⟩ = some v2 := by
  refine ⟨?_, ?_, ?_⟩ <;> simp [World.cell?, h]
theorem set3 {w : World} {B : Nat} {u0 u1 u2 : Value} (v0 v1 v2 : Value) {t : TypeId} (h : w.heap[B]? = some (.cells #[u0, u1, u2] t (0, 0))) {W : World} (hW : ((w.setCell ⟨B, 0, none⟩ v0).setCell ⟨B, 1, none⟩ v1).setCell ⟨B, 2, none⟩ v2 = W) :
    W.heap[B]? = some (.cells #[v0, v1, v2] t (0, 0)) ∧ (∀ n X, n ≤ B → Below n X w → Below n X W) ∧ (∀ b, b ≠ B → W.heap[b]? = w.heap[b]?) := by
  subst hW
  refine ⟨?_, fun n X hn hX => ?_, fun b hb => ?_⟩
  · exact heap_setCell_same _ _ _ _ _ _ (heap_setCell_same _ _ _ _ _ _ (heap_setCell_same _ _ _ _ _ _ h))
  · exact ((hX.setCell (p := ⟨B, 0, none⟩) hn _).setCell (p := ⟨B, 1, none⟩) hn _).setCell (p := ⟨B, 2, none⟩) hn _
  · rw [Below.heap_setCell _ _ _ _ hb, Below.heap_setCell _ _ _ _ hb, Below.heap_setCell _ _ _ _ hb]
end Go.Proofs.YtofjedecjlodmaaGreat.KAr

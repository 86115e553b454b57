/- The ways through code: contracts of isFormed, hasName. -/
import Derived.Test.YtamocioljeaicaaGreatDoorCBx
namespace Go.Proofs.YtamocioljeaicaaGreatDoor.CHt
open Go.RowKit Go.Proofs.YtamocioljeaicaaGreatDoor.IPure Go.Proofs.YtamocioljeaicaaGreatDoor.CPu Go.Proofs.YtamocioljeaicaaGreatDoor.CBx
set_option linter.unusedVariables false

theorem height_c {w : World} {B : Nat} {n t d : Int} {H : Nat → Int} (h : Wy w B n t d H) (hH : Hb H) {k : Nat} (hk : k < 8193) :
    Calls Tryz.prog 13 #[.pointer (some ⟨B, 0, none⟩), .int .i64 (k : Nat)] w fun e w' => e = .returned (.int .i64 (H k)) ∧ w = w' := by
  have hc := h.at hk
  have hx := hH k
  have hwA : IntKind.i64.wrap (H k + 1) = H k + 1 := w64 (by omega) (by omega)
  have hwB : IntKind.i64.wrap (H k) = H k := w64 (by omega) (by omega)
  generalize H k = x at *
  go_enter Tryz.func13, Tryz.ntmps13
  go_wp2_with fail
  go_ret
  exact ⟨rfl, rfl⟩
/-- What lead answers. -/
def LR (B : Nat) (w : World) (n t d : Int) (H : Nat → Int) (k : Nat) (x : Int) (e : Ending) (w' : World) : Prop := e = .returned (.bool (ldb H k x)) ∧ Wy w' B n t d (ld H k x) ∧ Below B w w'
set_option maxHeartbeats 800000 in
theorem lead_c {w : World} {B : Nat} {n t d : Int} {H : Nat → Int} (h : Wy w B n t d H) (hH : Hb H) {k : Nat} (hk : k < 8193) {x : Int} (h1 : 0 ≤ x) (h2 : x ≤ k) :
    Calls Tryz.prog 11 #[.pointer (some ⟨B, 0, none⟩), .int .i64 (k : Nat), .int .i64 x] w fun e w' => LR B w n t d H k x e w' := by
  have c1 := height_c h hH hk
  by_cases hn : H k < 0
  · have e1 : ldb H k x = true := by simp [ldb, hn]
    have e2 : ld H k x = upd H k x := by simp [ld, hn]
    have h' := h.set k x
    have hH' : Hb (upd H k x) := by rw [← e2]; exact ld_hb hH h1 h2
    have c2 := height_c h' hH' hk
    have e3 : upd H k x k = x := by simp [upd]
    rw [e3] at c2
    have hwA : IntKind.i64.wrap (x + 1) = x + 1 := w64 (by omega) (by omega)
    have hwB : IntKind.i16.wrap (x + 1) = x + 1 := w16 (by omega) (by omega)
    have hlt : decide (H k < 0) = true := by simp [hn]
    have hc := h.at hk
    have hf := h.free (3 + k)
    have hb : Below B w (w.setCell ⟨B, 3 + k, none⟩ (.int .i16 (x + 1))) := (Below.refl _ w).setCell (p := ⟨B, 3 + k, none⟩) (Nat.le_refl _) _
    unfold LR
    rw [e1, e2]
    have HP : Hid (Wy (w.setCell ⟨B, 3 + k, none⟩ (.int .i16 (x + 1))) B n t d (upd H k x)) := h'
    clear h h' hH hH' e1 e2 e3
    generalize H k = y at *
    clear hn
    go_enter Tryz.func11, Tryz.ntmps11
    go_wp2_with fail
    refine c1.mono ?_
    rintro e w1 ⟨rfl, rfl⟩
    go_wp2_with fail
    refine c2.mono ?_
    rintro e w1 ⟨rfl, rfl⟩
    go_wp2_with fail
    go_ret
    exact ⟨rfl, HP.out, hb⟩
  · have e1 : ldb H k x = (H k == x) := by simp [ldb, hn]
    have e2 : ld H k x = H := by simp [ld, hn]
    have hlt : decide (H k < 0) = false := by simp [hn]
    unfold LR
    rw [e1, e2]
    have HP : Hid (Wy w B n t d H) := h
    clear h hH e1 e2
    generalize H k = y at *
    clear hn
    go_enter Tryz.func11, Tryz.ntmps11
    go_wp2_with fail
    refine c1.mono ?_
    rintro e w1 ⟨rfl, rfl⟩
    go_wp2_with fail
    refine c1.mono ?_
    rintro e w1 ⟨rfl, rfl⟩
    go_wp2_with fail
    go_ret
    exact ⟨rfl, HP.out, Below.refl _ _⟩
theorem needs_c (o : Int) (w : World) : Calls Tryz.prog 30 #[.int .i64 o] w fun e w' => e = .returned (.int .i64 (nd o)) ∧ w = w' := by
  unfold nd
  generalize hn1 : decide (o ≤ 6) = x1
  generalize hn2 : (o == 33) = x2
  generalize hn3 : (o == 8) = x3
  generalize hn4 : decide (12 ≤ o) = x4
  generalize hn5 : decide (o ≤ 28) = x5
  cases x1 <;> cases x2 <;> cases x3 <;> cases x4 <;> cases x5 <;> (
    go_enter Tryz.func30, Tryz.ntmps30
    go_wp2_with fail
    go_ret
    exact ⟨rfl, rfl⟩)
theorem isJump_c (o : Int) (w : World) : Calls Tryz.prog 22 #[.int .i64 o] w fun e w' => e = .returned (.bool (ijp o)) ∧ w = w' := by
  unfold ijp
  generalize hn4 : decide (30 ≤ o) = x4
  generalize hn5 : decide (o ≤ 33) = x5
  cases x4 <;> cases x5 <;> (
    go_enter Tryz.func22, Tryz.ntmps22
    go_wp2_with fail
    go_ret
    exact ⟨rfl, rfl⟩)
end Go.Proofs.YtamocioljeaicaaGreatDoor.CHt

namespace Go.Proofs.YtamocioljeaicaaGreatDoor.CLo
open Go.RowKit Go.Proofs.YtamocioljeaicaaGreatDoor.IPure Go.Proofs.YtamocioljeaicaaGreatDoor.CPu Go.Proofs.YtamocioljeaicaaGreatDoor.CBx Go.Proofs.YtamocioljeaicaaGreatDoor.CHt
open Go.Proofs.YtamocioljeaicaaGreatDoor.IBase (heap_alloc_new)
set_option linter.unusedVariables false

theorem two_box {w : World} {B : Nat} {t : TypeId} {x y : Value} (h : w.heap[B]? = some (.cells #[x, y] t (0, 0))) : w.cell? ⟨B, 0, none⟩ = some x ∧ w.cell? ⟨B, 1, none⟩ = some y := by
  constructor <;> simp [World.cell?, h]
theorem box1 (w : World) (x y : Value) (t : TypeId) : ∃ W, w.alloc (.cells #[x, y] t) = W ∧ Below w.heap.size w W ∧ W.heap.size = w.heap.size + 1 ∧ W.cell? ⟨w.heap.size, 0, none⟩ = some x ∧ W.cell? ⟨w.heap.size, 1, none⟩ = some y :=
  ⟨_, rfl, (Below.refl _ w).alloc (Nat.le_refl _) _, by simp, (two_box (heap_alloc_new w _)).1, (two_box (heap_alloc_new w _)).2⟩
set_option maxHeartbeats 1600000 in
theorem isFormed_c (o a : Int) (w : World) : Calls Tryz.prog 20 #[.agg #[.int .i64 o, .int .i64 a]] w fun e w' => e = .returned (.bool (fmd o a)) ∧ Below w.heap.size w w' := by
  obtain ⟨W, hW, hb, hs, c0, c1⟩ := box1 w (.int .i64 o) (.int .i64 a) 32
  unfold fmd
  cases h4 : (o == 4)
  case true =>
    go_enter Tryz.func20, Tryz.ntmps20
    go_wp2_with fail
    go_ret
    exact ⟨rfl, hb⟩
  cases h5 : (o == 5)
  case true =>
    go_enter Tryz.func20, Tryz.ntmps20
    go_wp2_with fail
    go_ret
    exact ⟨rfl, hb⟩
  cases h6 : (o == 6)
  case true =>
    go_enter Tryz.func20, Tryz.ntmps20
    go_wp2_with fail
    go_ret
    exact ⟨rfl, hb⟩
  cases h7 : (o == 7)
  case true =>
    go_enter Tryz.func20, Tryz.ntmps20
    go_wp2_with fail
    go_ret
    exact ⟨rfl, hb⟩
  cases h30 : (o == 30)
  case true =>
    go_enter Tryz.func20, Tryz.ntmps20
    go_wp2_with fail
    go_ret
    exact ⟨rfl, hb⟩
  cases h31 : (o == 31)
  case true =>
    go_enter Tryz.func20, Tryz.ntmps20
    go_wp2_with fail
    go_ret
    exact ⟨rfl, hb⟩
  cases h32 : (o == 32)
  case true =>
    go_enter Tryz.func20, Tryz.ntmps20
    go_wp2_with fail
    go_ret
    exact ⟨rfl, hb⟩
  cases h33 : (o == 33)
  case true =>
    go_enter Tryz.func20, Tryz.ntmps20
    go_wp2_with fail
    go_ret
    exact ⟨rfl, hb⟩
  cases h9 : (o == 9)
  case true =>
    cases d1 : decide (1 ≤ a) <;> cases d2 : decide (a ≤ 8) <;> (
      go_enter Tryz.func20, Tryz.ntmps20
      go_wp2_with fail
      go_ret
      exact ⟨rfl, hb⟩)
  cases d1 : decide (1 ≤ o) <;> cases d2 : decide (o ≤ 33) <;> cases d3 : (a == 0) <;> (
    go_enter Tryz.func20, Tryz.ntmps20
    go_wp2_with fail
    go_ret
    exact ⟨rfl, hb⟩)
set_option maxHeartbeats 1600000 in
theorem hasName_c {w : World} {B : Nat} {n t d : Int} {H : Nat → Int} (h : Wy w B n t d H) (o a : Int) :
    Calls Tryz.prog 21 #[.pointer (some ⟨B, 0, none⟩), .agg #[.int .i64 o, .int .i64 a]] w fun e w' => e = .returned (.bool (hnm t d o a)) ∧ Below w.heap.size w w' := by
  obtain ⟨W, hW, hb, hs, c0, c1⟩ := box1 w (.int .i64 o) (.int .i64 a) 32
  have h2 := h.keep hb h.lt
  have q1 := h2.t
  have q2 := h2.d
  clear h h2
  unfold hnm
  cases h5 : (o == 5)
  case true =>
    cases d1 : decide (0 ≤ a) <;> cases d2 : decide (a < t) <;> (
      go_enter Tryz.func21, Tryz.ntmps21
      go_wp2_with fail
      go_quiet (fail)
      go_wp2_with fail
      go_ret
      exact ⟨rfl, IBase.below_drewN hb⟩)
  cases h7 : (o == 7)
  case true =>
    cases d1 : decide (0 ≤ a) <;> cases d2 : decide (a < t) <;> (
      go_enter Tryz.func21, Tryz.ntmps21
      go_wp2_with fail
      go_quiet (fail)
      go_wp2_with fail
      go_ret
      exact ⟨rfl, IBase.below_drewN hb⟩)
  cases h6 : (o == 6)
  case true =>
    cases d1 : decide (0 ≤ a) <;> cases d2 : decide (a < d) <;> (
      go_enter Tryz.func21, Tryz.ntmps21
      go_wp2_with fail
      go_quiet (fail)
      go_wp2_with fail
      go_ret
      exact ⟨rfl, IBase.below_drewN hb⟩)
  go_enter Tryz.func21, Tryz.ntmps21
  go_wp2_with fail
  go_ret
  exact ⟨rfl, hb⟩
end Go.Proofs.YtamocioljeaicaaGreatDoor.CLo

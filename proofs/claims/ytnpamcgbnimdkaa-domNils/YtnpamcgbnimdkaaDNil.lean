/- The calls of an arena that is none. -/
import Derived.Test.YtnpamcgbnimdkaaDPlace
namespace Go.Proofs.Ytnpamcgbnimdkaa.DNil
open Go.RowKit Go.Proofs.Ytnpamcgbnimdkaa.TBase Go.Proofs.Ytnpamcgbnimdkaa.DBase Go.Proofs.Ytnpamcgbnimdkaa.DNeed Go.Proofs.Ytnpamcgbnimdkaa.DKids Go.Proofs.Ytnpamcgbnimdkaa.DAsk
set_option linter.unusedVariables false

theorem one_oi (w : World) (y : Int) : Oi (w.alloc (.cells #[.int .i64 y] 3)) w.heap.size (.slice (some ⟨w.heap.size, 0, none⟩) 1 1) [y] :=
  ⟨rfl, .inr ⟨w.heap.size, 1, _, rfl, Nat.le_refl _, heap_alloc_new w _, Nat.le_refl _, by unfold maxLen; omega, rfl, rfl⟩⟩
theorem b1 {w : World} {o : Obj} : Below w.heap.size w (w.alloc o) := (Below.refl _ w).alloc (Nat.le_refl _) o
set_option maxRecDepth 20000 in
theorem Kids_nil (y : Int) (w : World) : Calls Try.prog 29 #[.pointer none, .int .i64 y] w fun e w' => e = .returned (.tuple #[.slice none 0 0, .int .i64 1]) ∧ Below w.heap.size w w' := by
  go_enter Try.func29, Try.ntmps29
  go_wp2_with (first | (go_at_call 54; refine (need_nil _ _).mono ?_; rintro e w1 ⟨rfl, rfl⟩))
  refine bodyPost_ret (v := .tuple #[.slice none 0 0, .int .i64 1]) (by simp [results, Try.results29, go_sem]) rfl ⟨rfl, b1⟩
set_option maxRecDepth 20000 in
theorem elem_nil (y : Int) (w : World) : Calls Try.prog 57 #[.pointer none, .int .i64 y] w fun e w' => e = .returned (.int .i64 1) ∧ Below w.heap.size w w' := by
  go_enter Try.func57, Try.ntmps57
  go_wp2_with (first | (go_at_call 54; refine (need_nil _ _).mono ?_; rintro e w1 ⟨rfl, rfl⟩))
  go_ret
  exact ⟨rfl, b1⟩
set_option maxRecDepth 20000 in
theorem Move_nil (y b : Int) (w : World) : Calls Try.prog 18 #[.pointer none, .int .i64 y, .int .i64 b] w fun e w' => e = .returned (.int .i64 1) ∧ Below w.heap.size w w' := by
  have c48 := ahead_nil (w := w.alloc (.cells #[.int .i64 y] 3)) (B := w.heap.size) (by simp) (one_oi w y) (by simp) b
  go_enter Try.func18, Try.ntmps18
  go_wp2_with (first | (go_at_call 48; refine c48.mono ?_; rintro e w1 ⟨rfl, q1⟩))
  go_ret
  exact ⟨rfl, b1.trans q1⟩
set_option maxRecDepth 20000 in
theorem Remove_nil (y : Int) (w : World) : Calls Try.prog 19 #[.pointer none, .int .i64 y] w fun e w' => e = .returned (.int .i64 1) ∧ Below w.heap.size w w' := by
  go_enter Try.func19, Try.ntmps19
  go_wp2_with (first | (go_at_call 54; refine (need_nil _ _).mono ?_; rintro e w1 ⟨rfl, rfl⟩))
  go_ret
  exact ⟨rfl, b1.alloc (by simp) _⟩
set_option maxRecDepth 20000 in
theorem SetAttr_nil (y : Int) (g x : ByteArray) (w : World) : Calls Try.prog 20 #[.pointer none, .int .i64 y, .string g, .string x] w fun e w' => e = .returned (.int .i64 1) ∧ Below w.heap.size w w' := by
  go_enter Try.func20, Try.ntmps20
  go_wp2_with (first | (go_at_call 57; refine (elem_nil _ _).mono ?_; rintro e w1 ⟨rfl, b1⟩))
  go_ret
  exact ⟨rfl, by assumption⟩
set_option maxRecDepth 20000 in
theorem DropAttr_nil (y : Int) (g : ByteArray) (w : World) : Calls Try.prog 21 #[.pointer none, .int .i64 y, .string g] w fun e w' => e = .returned (.int .i64 1) ∧ Below w.heap.size w w' := by
  go_enter Try.func21, Try.ntmps21
  go_wp2_with (first | (go_at_call 57; refine (elem_nil _ _).mono ?_; rintro e w1 ⟨rfl, b1⟩))
  go_ret
  exact ⟨rfl, by assumption⟩
set_option maxRecDepth 20000 in
theorem SetText_nil (y : Int) (g : ByteArray) (w : World) : Calls Try.prog 22 #[.pointer none, .int .i64 y, .string g] w fun e w' => e = .returned (.int .i64 1) ∧ Below w.heap.size w w' := by
  go_enter Try.func22, Try.ntmps22
  go_wp2_with (first | (go_at_call 54; refine (need_nil _ _).mono ?_; rintro e w1 ⟨rfl, rfl⟩))
  go_ret
  exact ⟨rfl, b1⟩
set_option maxRecDepth 20000 in
theorem Cells_nil (w : World) : Calls Try.prog 12 #[.pointer none] w fun e w' => e = .returned (.slice none 0 0) ∧ Below w.heap.size w w' := by
  go_enter Try.func12, Try.ntmps12
  go_wp2_with fail
  go_ret
  exact ⟨rfl, Below.refl _ _⟩
set_option maxRecDepth 20000 in
theorem Free_nil (w : World) : Calls Try.prog 13 #[.pointer none] w fun e w' => e = .returned (.slice none 0 0) ∧ Below w.heap.size w w' := by
  go_enter Try.func13, Try.ntmps13
  go_wp2_with fail
  go_ret
  exact ⟨rfl, Below.refl _ _⟩
set_option maxRecDepth 20000 in
theorem Forest_nil (w : World) : Calls Try.prog 28 #[.pointer none] w fun e w' => e = .returned (.slice none 0 0) ∧ Below w.heap.size w w' := by
  go_enter Try.func28, Try.ntmps28
  go_wp2_with (first | (go_at_call 54; refine (need_nil _ _).mono ?_; rintro e w1 ⟨rfl, rfl⟩))
  go_ret
  exact ⟨rfl, b1⟩
theorem Counts_nil (w : World) : Calls Try.prog 14 #[.pointer none] w fun e w' => e = .returned (.agg #[.int .i64 0, .int .i64 0, .int .i64 0, .int .i64 0, .int .i64 0, .int .i64 0, .int .i64 0]) ∧ Below w.heap.size w w' := by
  go_enter Try.func14, Try.ntmps14
  go_wp2_with fail
  refine bodyPost_ret (results_cell_row rfl _ _ w.heap.size 40 _ (0, 0) _ rfl (heap_alloc_new w _) Try.underlying40 rfl (by kernel_rfl)) rfl ?_
  exact ⟨rfl, b1⟩
theorem Counts_c {w : World} {p gc n : Nat} {fv : Value} {q : Nat → Int} (h : Bx w p gc n fv q) : Calls Try.prog 14 #[.pointer (some ⟨p, 0, none⟩)] w fun e w' => e = .returned (.agg #[.int .i64 (q 0), .int .i64 (q 1), .int .i64 (q 2), .int .i64 (q 3), .int .i64 (q 4), .int .i64 (q 5), .int .i64 (q 6)]) ∧ Below w.heap.size w w' := by
  have k0 := DMake.Bx.atc h 0 (by omega)
  have k1 := DMake.Bx.atc h 1 (by omega)
  have k2 := DMake.Bx.atc h 2 (by omega)
  have k3 := DMake.Bx.atc h 3 (by omega)
  have k4 := DMake.Bx.atc h 4 (by omega)
  have k5 := DMake.Bx.atc h 5 (by omega)
  have k6 := DMake.Bx.atc h 6 (by omega)
  simp only [Nat.add_zero, Nat.reduceAdd] at k0 k1 k2 k3 k4 k5 k6
  have hpl := h.lt
  clear h
  go_enter Try.func14, Try.ntmps14
  go_wp2_with fail
  refine bodyPost_ret (results_cell_row rfl _ _ w.heap.size 40 _ (0, 0) _ rfl (heap_alloc_new w _) Try.underlying40 rfl (by kernel_rfl)) rfl ?_
  exact ⟨rfl, b1⟩
end Go.Proofs.Ytnpamcgbnimdkaa.DNil

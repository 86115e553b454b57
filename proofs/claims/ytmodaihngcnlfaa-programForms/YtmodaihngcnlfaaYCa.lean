/- What panics is caught: the functions that are deferred. -/
import Derived.Test.YtmodaihngcnlfaaYPg
namespace Go.Proofs.Ytmodaihngcnlfaa.YCa
open Go.RowKit Go.Proofs.Ytmodaihngcnlfaa.YRr
set_option linter.unusedVariables false

theorem block_set {w : World} {B j : Nat} {cs : Array Value} {t : TypeId} {fz : Nat × Nat} (h : w.heap[B]? = some (.cells cs t fz)) (u : Value) : (w.setCell ⟨B, j, none⟩ u).heap[B]? = some (.cells (cs.setIfInBounds j u) t fz) := by
  simp [World.setCell, Array.getElem?_modify, h]
theorem wp_tmps {P : Program} {c : Code} {Q : Exit → Act → World → Prop} {T : Array Value} (L : Array Value) {w : World} (e : T = L) (h : c.wp P Q { tmps := L, defers := [] } w) : c.wp P Q { tmps := T, defers := [] } w := by
  subst e; exact h
theorem as_no (w : World) : (Instr.typeAssert .nilIface 20 45 true).run Try.prog w = .ok (.tuple #[.agg #[.int .i64 0, .int .i64 0], .bool false]) w := by
  simp [Instr.typeAssert, run_underlying Try.underlying45, Try.zeroValue45]
theorem as_yes (v : Value) (w : World) : (Instr.typeAssert (.iface 45 v) 20 45 true).run Try.prog w = .ok (.tuple #[v, .bool true]) w := by
  simp [Instr.typeAssert, run_underlying Try.underlying45]
set_option maxRecDepth 20000 in
theorem idle_b (p : Addr) (w : World) :
    CallsD Try.prog 24 #[.pointer (some p)] .returning w fun e u' w' => e = .returned (.tuple #[]) ∧ u' = .returning ∧ Below w.heap.size w w' := by
  refine callsD_of_wpS Try.func24 rfl fun c₀ cs hu => ?_
  apply wpS_seq
  apply wpS_region
  simp [wpOpsS, go_sem, recoverD, hu, Try.ntmps24, Exit.thenS, as_no]
  refine wpS_of_wp ?_
  refine wp_tmps (#[.pointer (some p), .pointer (some ⟨w.heap.size, 0, none⟩), .bool false, .tuple #[.agg #[.int .i64 0, .int .i64 0], .bool false], .nilIface, .tuple #[.agg #[.int .i64 0, .int .i64 0], .bool false], .agg #[.int .i64 0, .int .i64 0], .bool false, undef, undef]) (by kernel_rfl) ?_
  go_wp2
  cases c₀
  simp_all [bodyPostS, results, Try.results24]
  exact (Below.refl _ w).alloc (Nat.le_refl _) _
set_option maxRecDepth 20000 in
set_option maxHeartbeats 1600000 in
theorem fault_b (M : Nat) (c0 c1 : Int) (older : List PanicEntry) (w : World) (z0 z1 : Value) (hM : w.heap[M]? = some (.cells #[z0, z1] 45 (0, 0))) :
    CallsD Try.prog 24 #[.pointer (some ⟨M, 0, none⟩)] (.panicking ({ v := .iface 45 (.agg #[.int .i64 c0, .int .i64 c1]), recovered := false } :: older)) w fun e u' w' => e = .returned (.tuple #[]) ∧
      u' = .panicking ({ v := .iface 45 (.agg #[.int .i64 c0, .int .i64 c1]), recovered := true } :: older) ∧
        w'.heap[M]? = some (.cells #[.int .i64 c0, .int .i64 c1] 45 (0, 0)) ∧ ∀ n, n ≤ M → Below n w w' := by
  have hMl : M < w.heap.size := (Array.getElem?_eq_some_iff.1 hM).1
  obtain ⟨W, hW⟩ : ∃ W, w.alloc (.cells #[.int .i64 c0, .int .i64 c1] 45) = W := ⟨_, rfl⟩
  have hM1 : W.heap[M]? = some (.cells #[z0, z1] 45 (0, 0)) := by rw [← hW, Below.heap_alloc _ _ _ hMl]; exact hM
  have hF1 : W.heap[w.heap.size]? = some (.cells #[.int .i64 c0, .int .i64 c1] 45 (0, 0)) := by rw [← hW]; exact heap_alloc_new w _
  have hB : Below w.heap.size w W := by rw [← hW]; exact (Below.refl _ w).alloc (Nat.le_refl _) _
  have e0 := cell_of hM1 0 _ rfl
  have e1 := cell_of hM1 1 _ rfl
  have g0 := TBase.frozen_box hM1 0
  have g1 := TBase.frozen_box hM1 1
  have a0 := cell_of hF1 0 _ rfl
  have a1 := cell_of hF1 1 _ rfl
  have n5 : M ≠ w.heap.size := by omega
  have n6 : w.heap.size ≠ M := by omega
  refine callsD_of_wpS Try.func24 rfl fun c₀ cs hu => ?_
  apply wpS_seq
  apply wpS_region
  simp [wpOpsS, go_sem, recoverD, hu, Try.ntmps24, Exit.thenS, as_yes]
  refine wpS_of_wp ?_
  rw [hW]
  refine wp_tmps (#[.pointer (some ⟨M, 0, none⟩), .pointer (some ⟨w.heap.size, 0, none⟩), .bool true, .tuple #[.agg #[.int .i64 c0, .int .i64 c1], .bool true], .iface 45 (.agg #[.int .i64 c0, .int .i64 c1]), .tuple #[.agg #[.int .i64 c0, .int .i64 c1], .bool true], .agg #[.int .i64 c0, .int .i64 c1], .bool true, undef, undef]) (by kernel_rfl) ?_
  have HM1 : Hid (W.heap[M]? = some (.cells #[z0, z1] 45 (0, 0))) := hM1
  have HB : Hid (Below w.heap.size w W) := hB
  clear hM1 hF1 hB hM hW
  go_wp2_with fail
  refine ⟨rfl, _, rfl, .tuple #[], results_none rfl _ _ _, rfl, rfl, ?_, fun n hM => (((HB.out.mono (by omega)).setCell (p := ⟨M, 0, none⟩) hM _).setCell (p := ⟨M, 1, none⟩) hM _)⟩
  show ((W.setCell ⟨M, 0, none⟩ _).setCell ⟨M, 1, none⟩ _).heap[M]? = _
  rw [block_set (block_set HM1.out _) _]
  rfl
set_option maxRecDepth 20000 in
theorem idle_p (p : Addr) (w : World) :
    CallsD Try.prog 27 #[.pointer (some p)] .returning w fun e u' w' => e = .returned (.tuple #[]) ∧ u' = .returning ∧ Below w.heap.size w w' := by
  refine callsD_of_wpS Try.func27 rfl fun c₀ cs hu => ?_
  apply wpS_seq
  apply wpS_region
  simp [wpOpsS, go_sem, recoverD, hu, Try.ntmps27, Exit.thenS, as_no]
  refine wpS_of_wp ?_
  refine wp_tmps (#[.pointer (some p), .pointer (some ⟨w.heap.size, 0, none⟩), .bool false, .tuple #[.agg #[.int .i64 0, .int .i64 0], .bool false], .nilIface, .tuple #[.agg #[.int .i64 0, .int .i64 0], .bool false], .agg #[.int .i64 0, .int .i64 0], .bool false, undef, undef]) (by kernel_rfl) ?_
  go_wp2
  cases c₀
  simp_all [bodyPostS, results, Try.results27]
  exact (Below.refl _ w).alloc (Nat.le_refl _) _
set_option maxRecDepth 20000 in
set_option maxHeartbeats 1600000 in
theorem fault_p (M : Nat) (c0 c1 : Int) (older : List PanicEntry) (w : World) (z0 z1 : Value) (hM : w.heap[M]? = some (.cells #[z0, z1] 45 (0, 0))) :
    CallsD Try.prog 27 #[.pointer (some ⟨M, 0, none⟩)] (.panicking ({ v := .iface 45 (.agg #[.int .i64 c0, .int .i64 c1]), recovered := false } :: older)) w fun e u' w' => e = .returned (.tuple #[]) ∧
      u' = .panicking ({ v := .iface 45 (.agg #[.int .i64 c0, .int .i64 c1]), recovered := true } :: older) ∧
        w'.heap[M]? = some (.cells #[.int .i64 c0, .int .i64 c1] 45 (0, 0)) ∧ ∀ n, n ≤ M → Below n w w' := by
  have hMl : M < w.heap.size := (Array.getElem?_eq_some_iff.1 hM).1
  obtain ⟨W, hW⟩ : ∃ W, w.alloc (.cells #[.int .i64 c0, .int .i64 c1] 45) = W := ⟨_, rfl⟩
  have hM1 : W.heap[M]? = some (.cells #[z0, z1] 45 (0, 0)) := by rw [← hW, Below.heap_alloc _ _ _ hMl]; exact hM
  have hF1 : W.heap[w.heap.size]? = some (.cells #[.int .i64 c0, .int .i64 c1] 45 (0, 0)) := by rw [← hW]; exact heap_alloc_new w _
  have hB : Below w.heap.size w W := by rw [← hW]; exact (Below.refl _ w).alloc (Nat.le_refl _) _
  have e0 := cell_of hM1 0 _ rfl
  have e1 := cell_of hM1 1 _ rfl
  have g0 := TBase.frozen_box hM1 0
  have g1 := TBase.frozen_box hM1 1
  have a0 := cell_of hF1 0 _ rfl
  have a1 := cell_of hF1 1 _ rfl
  have n5 : M ≠ w.heap.size := by omega
  have n6 : w.heap.size ≠ M := by omega
  refine callsD_of_wpS Try.func27 rfl fun c₀ cs hu => ?_
  apply wpS_seq
  apply wpS_region
  simp [wpOpsS, go_sem, recoverD, hu, Try.ntmps27, Exit.thenS, as_yes]
  refine wpS_of_wp ?_
  rw [hW]
  refine wp_tmps (#[.pointer (some ⟨M, 0, none⟩), .pointer (some ⟨w.heap.size, 0, none⟩), .bool true, .tuple #[.agg #[.int .i64 c0, .int .i64 c1], .bool true], .iface 45 (.agg #[.int .i64 c0, .int .i64 c1]), .tuple #[.agg #[.int .i64 c0, .int .i64 c1], .bool true], .agg #[.int .i64 c0, .int .i64 c1], .bool true, undef, undef]) (by kernel_rfl) ?_
  have HM1 : Hid (W.heap[M]? = some (.cells #[z0, z1] 45 (0, 0))) := hM1
  have HB : Hid (Below w.heap.size w W) := hB
  clear hM1 hF1 hB hM hW
  go_wp2_with fail
  refine ⟨rfl, _, rfl, .tuple #[], results_none rfl _ _ _, rfl, rfl, ?_, fun n hM => (((HB.out.mono (by omega)).setCell (p := ⟨M, 0, none⟩) hM _).setCell (p := ⟨M, 1, none⟩) hM _)⟩
  show ((W.setCell ⟨M, 0, none⟩ _).setCell ⟨M, 1, none⟩ _).heap[M]? = _
  rw [block_set (block_set HM1.out _) _]
  rfl
end Go.Proofs.Ytmodaihngcnlfaa.YCa

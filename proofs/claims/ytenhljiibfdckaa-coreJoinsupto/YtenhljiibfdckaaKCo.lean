/- How many nodes a core has, how many fors lie around one another: Count, Loops (package core). -/
import Derived.Test.YtenhljiibfdckaaKVc
import Derived.Test.YtenhljiibfdckaaKVl
namespace Go.Proofs.Ytenhljiibfdckaa.KCo
open Go.RowKit Go.Proofs.Ytenhljiibfdckaa.Base Go.Proofs.Ytenhljiibfdckaa.EPure Go.Proofs.Ytenhljiibfdckaa.KBase Go.Proofs.Ytenhljiibfdckaa.KAr Go.Proofs.Ytenhljiibfdckaa.KEx Go.Proofs.Ytenhljiibfdckaa.KLe Go.Proofs.Ytenhljiibfdckaa.KNp Go.Proofs.Ytenhljiibfdckaa.KNd Go.Proofs.Ytenhljiibfdckaa.KVp
set_option linter.unusedVariables false

/-- A core that may be, or none. -/
def tk (cs : List Co) : List Co := if chk cs = 0 then cs else []
theorem tk_ok {cs : List Co} (h : chk cs = 0) : lbL 0 cs = true ∧ (szL cs : Int) ≤ 4096 := by
  have := ok_small _ cs 4096 1 0 0 (Nat.le_refl _) h (by omega)
  have r := ndL_room _ cs 4096 1 0 0 (Nat.le_refl _) h (by omega)
  exact ⟨this.1, by omega⟩
theorem tk_small (cs : List Co) : lbL 0 (tk cs) = true ∧ (szL (tk cs) : Int) ≤ 4096 := by
  unfold tk
  split
  · next h => exact tk_ok h
  · exact ⟨lbL_nil 0, by rw [szL_nil]; simp⟩
set_option maxRecDepth 20000 in
theorem taken_c {m : Nat} {w : World} {v : Value} {cs : List Co} (hin : InL false (fun _ => True) w m v cs) :
    Calls Try.prog 18 #[v] w fun x w' => ∃ u, x = .returned u ∧ (∀ (w0 : World) (S : Nat → Prop), InL false S w0 m v cs → InL false S w0 m u (tk cs)) ∧ Below w.heap.size w w' := by
  have cC := check_c hin
  have HIN : Hid (InL false (fun _ => True) w m v cs) := hin
  obtain ⟨X, hX⟩ : ∃ X, chk cs = X := ⟨_, rfl⟩
  rw [hX] at cC
  obtain ⟨a, cap, rfl, -⟩ := hin
  have HT : Hid (tk cs = if X = 0 then cs else []) := by show _ = _; unfold tk; rw [hX]
  clear hX
  by_cases h0 : X = 0
  · subst h0
    have HT1 : Hid (tk cs = cs) := by show _ = _; rw [HT.out, if_pos rfl]
    clear HT
    go_enter Try.func18, Try.ntmps18
    go_wp2_with fail
    refine cC.mono ?_
    rintro x W1 ⟨rfl, b1⟩
    go_wp2_with fail
    go_ret
    refine ⟨_, rfl, fun w0 S h => ?_, b1⟩
    rw [HT1.out]
    exact h
  · have hne : (X != 0) = true := by simpa using h0
    have HT2 : Hid (tk cs = []) := by show _ = _; rw [HT.out, if_neg h0]
    clear h0 HT
    go_enter Try.func18, Try.ntmps18
    go_wp2_with fail
    refine cC.mono ?_
    rintro x W1 ⟨rfl, b1⟩
    go_wp2_with fail
    go_ret
    refine ⟨_, rfl, fun w0 S h => ?_, b1⟩
    rw [HT2.out]
    exact Rw.nil
set_option maxRecDepth 20000 in
theorem count_c {m : Nat} {w : World} {v : Value} {cs : List Co} (hin : InL false (fun _ => True) w m v cs) :
    Calls Try.prog 10 #[v] w fun x w' => x = .returned (.int .i64 (szL (tk cs))) ∧ Below w.heap.size w w' := by
  obtain ⟨W0, hW0⟩ : ∃ W0, w.alloc (.cells #[.int .i64 0] 3) = W0 := ⟨_, rfl⟩
  have b0 : Below w.heap.size w W0 := by rw [← hW0]; exact (Below.refl _ w).alloc (Nat.le_refl _) _
  have hs0 : W0.heap.size = w.heap.size + 1 := by rw [← hW0]; simp
  have HQ : Hid (W0.heap[w.heap.size]? = some (.cells #[.int .i64 0] 3 (0, 0))) := by rw [← hW0]; exact heap_alloc_new w _
  have cT := taken_c (InL.below hin b0)
  have HIN : Hid (InL false (fun _ => True) w m v cs) := hin
  obtain ⟨a0, cap0, hv0, -⟩ := hin
  have HB0 : Hid (Below w.heap.size w W0) := b0
  have hsm := tk_small cs
  have vz := KVc.vf_sz _ (tk cs) 0 0 (Nat.le_refl _)
  obtain ⟨L, hL⟩ : ∃ L, tk cs = L := ⟨_, rfl⟩
  have HL : Hid (tk cs = L) := hL
  rw [hL] at cT hsm vz ⊢
  obtain ⟨N, hN⟩ : ∃ N, (szL L : Int) = N := ⟨_, rfl⟩
  have HN : Hid (0 + (szL L : Int) = N) := by show _ = _; omega
  rw [hN]
  have HLB : Hid (lbL 0 L = true) := hsm.1
  have HSZ : Hid ((0 : Int) ≤ 0 ∧ 0 + (szL L : Int) ≤ 1000000) := by constructor <;> omega
  have HV : Hid (KVc.vf 0 L 0 = N) := vz.trans HN.out
  subst hv0
  clear hsm b0 hN vz hL
  have HW0 : Hid (w.alloc (.cells #[.int .i64 0] 3) = W0) := hW0
  clear hW0
  go_enter Try.func10, Try.ntmps10
  go_wp2_with fail
  try rw [HW0.out]
  refine cT.mono ?_
  rintro x W1 ⟨u, rfl, hu, b1⟩
  have hs1 := b1.size
  have hu2 : InL false (fun b => b ≠ w.heap.size) W1 m u L := by
    have h1 : InL false (fun _ => True) w m u L := hu _ _ HIN.out
    exact h1.other (nx HB0.out b1) (Nat.le_refl _)
  have HQ1 : Hid (W1.heap[w.heap.size]? = some (.cells #[.int .i64 0] 3 (0, 0))) := (b1.block _ (by omega)).trans HQ.out
  have HB1 : Hid (Below w.heap.size w W1) := nx HB0.out b1
  have cV := KVc.visit_all m W1 u L w.heap.size 0 0 hu2 HQ1.out (by omega) HLB.out HSZ.out
  rw [HV.out] at cV
  clear cT hu hu2 b1
  go_wp2_with fail
  refine cV.mono ?_
  rintro x W2 ⟨⟨v9, rfl⟩, k2, h2⟩
  have HQ2 : Hid _ := h2
  have HB2 : Hid (Below w.heap.size w W2) := HB1.out.trans k2.below
  have c2 := box_one h2
  clear cV k2 h2
  go_wp2_with fail
  go_ret
  exact ⟨rfl, HB2.out⟩
set_option maxRecDepth 20000 in
theorem loops_c {m : Nat} {w : World} {v : Value} {cs : List Co} (hin : InL false (fun _ => True) w m v cs) :
    Calls Try.prog 13 #[v] w fun x w' => x = .returned (.int .i64 (KVl.vf 0 (tk cs) 0)) ∧ Below w.heap.size w w' := by
  obtain ⟨W0, hW0⟩ : ∃ W0, w.alloc (.cells #[.int .i64 0] 3) = W0 := ⟨_, rfl⟩
  have b0 : Below w.heap.size w W0 := by rw [← hW0]; exact (Below.refl _ w).alloc (Nat.le_refl _) _
  have hs0 : W0.heap.size = w.heap.size + 1 := by rw [← hW0]; simp
  have HQ : Hid (W0.heap[w.heap.size]? = some (.cells #[.int .i64 0] 3 (0, 0))) := by rw [← hW0]; exact heap_alloc_new w _
  have cT := taken_c (InL.below hin b0)
  have HIN : Hid (InL false (fun _ => True) w m v cs) := hin
  obtain ⟨a0, cap0, hv0, -⟩ := hin
  have HB0 : Hid (Below w.heap.size w W0) := b0
  have hsm := tk_small cs
  obtain ⟨L, hL⟩ : ∃ L, tk cs = L := ⟨_, rfl⟩
  have HL : Hid (tk cs = L) := hL
  rw [hL] at cT hsm ⊢
  obtain ⟨N, hN⟩ : ∃ N, KVl.vf 0 L 0 = N := ⟨_, rfl⟩
  have HV : Hid (KVl.vf 0 L 0 = N) := hN
  rw [hN]
  have HLB : Hid (lbL 0 L = true) := hsm.1
  have HSZ : Hid ((0 : Int) ≤ 0 ∧ (0 : Int) ≤ 100) := by constructor <;> omega
  subst hv0
  clear hsm b0 hN hL
  have HW0 : Hid (w.alloc (.cells #[.int .i64 0] 3) = W0) := hW0
  clear hW0
  go_enter Try.func13, Try.ntmps13
  go_wp2_with fail
  try rw [HW0.out]
  refine cT.mono ?_
  rintro x W1 ⟨u, rfl, hu, b1⟩
  have hs1 := b1.size
  have hu2 : InL false (fun b => b ≠ w.heap.size) W1 m u L := by
    have h1 : InL false (fun _ => True) w m u L := hu _ _ HIN.out
    exact h1.other (nx HB0.out b1) (Nat.le_refl _)
  have HQ1 : Hid (W1.heap[w.heap.size]? = some (.cells #[.int .i64 0] 3 (0, 0))) := (b1.block _ (by omega)).trans HQ.out
  have HB1 : Hid (Below w.heap.size w W1) := nx HB0.out b1
  have cV := KVl.visit_all m W1 u L w.heap.size 0 0 hu2 HQ1.out (by omega) HLB.out HSZ.out
  rw [HV.out] at cV
  clear cT hu hu2 b1
  go_wp2_with fail
  refine cV.mono ?_
  rintro x W2 ⟨⟨v9, rfl⟩, k2, h2⟩
  have HQ2 : Hid _ := h2
  have HB2 : Hid (Below w.heap.size w W2) := HB1.out.trans k2.below
  have c2 := box_one h2
  clear cV k2 h2
  go_wp2_with fail
  go_ret
  exact ⟨rfl, HB2.out⟩
end Go.Proofs.Ytenhljiibfdckaa.KCo

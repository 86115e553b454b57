/- The walk of CorePlaces (stencillaw15). -/
import Derived.Test.YtenhljiibfdckaaKPl
namespace Go.Proofs.Ytenhljiibfdckaa.WPl
open Go.RowKit Go.Proofs.Ytenhljiibfdckaa.Base Go.Proofs.Ytenhljiibfdckaa.EPure Go.Proofs.Ytenhljiibfdckaa.KBase Go.Proofs.Ytenhljiibfdckaa.KAr Go.Proofs.Ytenhljiibfdckaa.KLe Go.Proofs.Ytenhljiibfdckaa.KNd Go.Proofs.Ytenhljiibfdckaa.KVp Go.Proofs.Ytenhljiibfdckaa.KAwP Go.Proofs.Ytenhljiibfdckaa.KAw Go.Proofs.Ytenhljiibfdckaa.KPl
set_option linter.unusedVariables false

theorem i64_and63 (n : Int) : bits .and .i64 n 63 = n % 64 := by
  have h63 : (BitVec.ofInt 64 63).toNat = 2 ^ 6 - 1 := by decide
  have key : (BitVec.ofInt 64 n &&& BitVec.ofInt 64 63).toNat = (n % ((2 ^ 64 : Nat) : Int)).toNat % 2 ^ 6 := by
    rw [BitVec.toNat_and, BitVec.toNat_ofInt, h63, Nat.and_two_pow_sub_one_eq_mod]
  show IntKind.i64.wrap ((BitVec.ofInt 64 n &&& BitVec.ofInt 64 63).toNat : Nat) = n % 64
  rw [key, IntKind.wrap_i64]
  omega
theorem wt_len (p : Int) (k : Nat) : (wt p k).length = 1 := by cases k <;> rfl
theorem four_new (w : World) (v0 v1 v2 v3 : Value) (t : TypeId) : ∃ W, w.alloc (.cells #[v0, v1, v2, v3] t) = W ∧ Below w.heap.size w W ∧ W.heap.size = w.heap.size + 1 ∧ W.heap[w.heap.size]? = some (.cells #[v0, v1, v2, v3] t (0, 0)) :=
  ⟨_, rfl, (Below.refl _ w).alloc (Nat.le_refl _) _, by simp, heap_alloc_new w _⟩
theorem seven_new (w : World) (v0 v1 v2 v3 v4 v5 v6 : Value) (t : TypeId) : ∃ W, w.alloc (.cells #[v0, v1, v2, v3, v4, v5, v6] t) = W ∧ Below w.heap.size w W ∧ W.heap.size = w.heap.size + 1 ∧ W.heap[w.heap.size]? = some (.cells #[v0, v1, v2, v3, v4, v5, v6] t (0, 0)) :=
  ⟨_, rfl, (Below.refl _ w).alloc (Nat.le_refl _) _, by simp, heap_alloc_new w _⟩
set_option maxRecDepth 20000 in
set_option maxHeartbeats 3200000 in
theorem walk (p q : Int) (hp1 : -9223372036854775808 ≤ p) (hp2 : p ≤ 9223372036854775807) (hq1 : -9223372036854775808 ≤ q) (hq2 : q ≤ 9223372036854775807) (w : World) :
    Calls Try.prog 4 #[.int .i64 p, .int .i64 q] w fun e w' => e = .returned (.bool true) ∧ Below w.heap.size w w' := by
  have cA := awake_c w
  have hand := i64_and63 q
  obtain ⟨k, hk⟩ : ∃ k : Nat, q % 64 = (k : Int) := ⟨(q % 64).toNat, by omega⟩
  have hk63 : k ≤ 63 := by omega
  rw [hk] at hand
  clear hk
  go_enter Try.func4, Try.ntmps4
  go_wp2_with fail
  refine cA.mono ?_
  rintro e W0 ⟨rfl, b0⟩
  have HB0 : Hid (Below w.heap.size w W0) := b0
  clear cA b0
  obtain ⟨W1, hW1⟩ : ∃ W1, (W0.alloc (.cells #[.string nil, .bool true, .int .i64 6, .int .i64 p, .string nil, ns] 44)).alloc (.cells #[.int .i64 1, .string nil, ns, row1 W0.heap.size, ns, ns, ns] 41) = W1 := ⟨_, rfl⟩
  have b1 : Below W0.heap.size W0 W1 := by rw [← hW1]; exact ((Below.refl _ W0).alloc (Nat.le_refl _) _).alloc (by simp) _
  have p0 : W1.heap[W0.heap.size]? = some (.cells #[.string nil, .bool true, .int .i64 6, .int .i64 p, .string nil, ns] 44 (0, 0)) := by rw [← hW1, Below.heap_alloc _ _ _ (by simp)]; exact heap_alloc_new W0 _
  have p1 : W1.heap[W0.heap.size + 1]? = some (.cells #[.int .i64 1, .string nil, ns, row1 W0.heap.size, ns, ns, ns] 41 (0, 0)) := by rw [← hW1]; exact heap_alloc_at _ _ _ (by simp)
  have HI1 : Hid (InL false (fun _ => True) W1 1 (row1 (W0.heap.size + 1)) (wt p 0)) := Rw.one trivial (co_at p1) (t_in ⟨hp1, hp2⟩ p0) (by omega)
  have HB1 : Hid (Below w.heap.size w W1) := nx HB0.out b1
  clear b1 p0 p1
  go_wp2_with fail
  try rw [hW1]
  clear hW1
  go_loopw [7, 6] (fun i cs wr => ∃ (j : Nat), i = .int .i64 j ∧ j ≤ k ∧ InL false (fun _ => True) wr (j + 1) cs (wt p j) ∧ Below w.heap.size w wr) (fun i _ _ => k - (intOf i).toNat)
  case atStart => exact ⟨0, rfl, by omega, HI1.out, HB1.out⟩
  case round =>
    clear HI1 HB1 HB0
    obtain ⟨j, rfl, hj, hin, hB⟩ := hrel
    have HIN : Hid (InL false (fun _ => True) wr (j + 1) u6 (wt p j)) := hin
    have HB : Hid (Below w.heap.size w wr) := hB
    obtain ⟨a, cap, hv, -⟩ := hin
    rw [wt_len] at hv
    subst hv
    clear hB
    by_cases hlt : j < k
    · have d0 : decide ((j : Int) < (k : Int)) = true := by simp; omega
      obtain ⟨W4, hW4⟩ : ∃ W4, (wr.alloc (.cells #[.int .i64 1, .int .i64 0, .string nil, ns] 35)).alloc (.cells #[.int .i64 5, .string nil, ns, ns, row1 wr.heap.size, .slice a 1 cap, ns] 41) = W4 := ⟨_, rfl⟩
      have b4 : Below wr.heap.size wr W4 := by rw [← hW4]; exact ((Below.refl _ wr).alloc (Nat.le_refl _) _).alloc (by simp) _
      have p0 : W4.heap[wr.heap.size]? = some (.cells #[.int .i64 1, .int .i64 0, .string nil, ns] 35 (0, 0)) := by rw [← hW4, Below.heap_alloc _ _ _ (by simp)]; exact heap_alloc_new wr _
      have p1 : W4.heap[wr.heap.size + 1]? = some (.cells #[.int .i64 5, .string nil, ns, ns, row1 wr.heap.size, .slice a 1 cap, ns] 41 (0, 0)) := by rw [← hW4]; exact heap_alloc_at _ _ _ (by simp)
      have HI4 : Hid (InL false (fun _ => True) W4 (j + 1 + 1) (row1 (wr.heap.size + 1)) (wt p (j + 1))) := Rw.one trivial (co_at p1) (w_in p0 (InL.below HIN.out b4)) (by omega)
      have HB4 : Hid (Below w.heap.size w W4) := nx HB.out b4
      clear b4 p0 p1
      go_wp2_with fail
      try rw [hW4]
      go_roundw
      case rel => exact ⟨j + 1, by go_num, by omega, HI4.out, HB4.out⟩
      case measure => simp only [intOf]; omega
    · obtain rfl : j = k := by omega
      have d0 : decide ((j : Int) < (j : Int)) = false := by simp
      have cC := check_c HIN.out
      rw [chk_wt p j hk63] at cC
      have h64 : decide ((64 : Int) ≤ (j : Int)) = false := decide_eq_false (by omega)
      have cN := fun x W => num_c x W
      by_cases h : 0 ≤ p ∧ p ≤ (j : Int)
      · rw [if_pos h] at cC
        have e1 : decide ((0 : Int) ≤ p) = true := decide_eq_true h.1
        have e2 : decide (p ≤ (j : Int)) = true := decide_eq_true h.2
        have HH : Hid (szL (KCo.tk (wt p j)) = j + 1) := tk_yes hk63 h
        clear h
        go_wp2_with fail
        refine cC.mono ?_
        rintro e W5 ⟨rfl, b5⟩
        have HB5 : Hid (Below w.heap.size w W5) := nx HB.out b5
        have cK := KCo.count_c (InL.below HIN.out b5)
        rw [HH.out] at cK
        have hcast : (((j + 1 : Nat) : Int) == (j : Int) + 1) = true := by simp
        clear cC b5
        go_wp2_with (first | (go_at_call 9; refine (cN _ _).mono ?_; rintro e W9 ⟨rfl, h9⟩; obtain rfl := h9.symm))
        refine cK.mono ?_
        rintro e W6 ⟨rfl, b6⟩
        have HB6 : Hid (Below w.heap.size w W6) := nx HB5.out b6
        clear cK b6
        go_wp2_with fail
        go_ret
        exact ⟨by simp, HB6.out⟩
      · rw [if_neg h] at cC
        have HH : Hid (szL (KCo.tk (wt p j)) = 0) := tk_no hk63 h
        by_cases h1 : 0 ≤ p
        · have e1 : decide ((0 : Int) ≤ p) = true := decide_eq_true h1
          have e2 : decide (p ≤ (j : Int)) = false := decide_eq_false (fun h2 => h ⟨h1, h2⟩)
          clear h h1
          go_wp2_with fail
          refine cC.mono ?_
          rintro e W5 ⟨rfl, b5⟩
          have HB5 : Hid (Below w.heap.size w W5) := nx HB.out b5
          have cK := KCo.count_c (InL.below HIN.out b5)
          rw [HH.out] at cK
          clear cC b5
          go_wp2_with (first | (go_at_call 9; refine (cN _ _).mono ?_; rintro e W9 ⟨rfl, h9⟩; obtain rfl := h9.symm))
          refine cK.mono ?_
          rintro e W6 ⟨rfl, b6⟩
          have HB6 : Hid (Below w.heap.size w W6) := nx HB5.out b6
          clear cK b6
          go_wp2_with fail
          go_ret
          exact ⟨by simp, HB6.out⟩
        · have e1 : decide ((0 : Int) ≤ p) = false := decide_eq_false h1
          clear h h1
          go_wp2_with fail
          refine cC.mono ?_
          rintro e W5 ⟨rfl, b5⟩
          have HB5 : Hid (Below w.heap.size w W5) := nx HB.out b5
          have cK := KCo.count_c (InL.below HIN.out b5)
          rw [HH.out] at cK
          clear cC b5
          go_wp2_with (first | (go_at_call 9; refine (cN _ _).mono ?_; rintro e W9 ⟨rfl, h9⟩; obtain rfl := h9.symm))
          refine cK.mono ?_
          rintro e W6 ⟨rfl, b6⟩
          have HB6 : Hid (Below w.heap.size w W6) := nx HB5.out b6
          clear cK b6
          go_wp2_with fail
          go_ret
          exact ⟨by simp, HB6.out⟩
end Go.Proofs.Ytenhljiibfdckaa.WPl

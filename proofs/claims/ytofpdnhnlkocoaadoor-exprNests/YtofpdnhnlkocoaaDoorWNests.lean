/- Expressions: the walk of the law ExprNests. -/
import Derived.Test.YtofpdnhnlkocoaaDoorPX30
import Derived.Test.YtofpdnhnlkocoaaDoorENsE
namespace Go.Proofs.YtofpdnhnlkocoaaDoor.WNests
open Go.RowKit Go.Proofs.YtofpdnhnlkocoaaDoor.Base Go.Proofs.YtofpdnhnlkocoaaDoor.EPure Go.Proofs.YtofpdnhnlkocoaaDoor.EPs Go.Proofs.YtofpdnhnlkocoaaDoor.EAw Go.Proofs.YtofpdnhnlkocoaaDoor.ENst Go.Proofs.YtofpdnhnlkocoaaDoor.EBit
set_option linter.unusedVariables false

set_option maxRecDepth 20000 in
set_option maxHeartbeats 3200000 in
theorem walk {w : World} (a0 : Int) (l0 : -9223372036854775808 ≤ a0) (u0 : a0 ≤ 9223372036854775807) (a1 : Int) (l1 : -9223372036854775808 ≤ a1) (u1 : a1 ≤ 9223372036854775807) (ht : TX w) :
    Calls Tryd.prog 6 #[.int .i64 a0, .int .i64 a1] w fun e w' => e = .returned (.bool true) ∧ Below w.heap.size w w' := by
  obtain ⟨k, hk, hk64⟩ : ∃ k : Nat, bits .and .i64 a0 63 = k ∧ k < 64 := ⟨(a0 % 64).toNat, by rw [and63]; omega, by omega⟩
  obtain ⟨q, hq, hq4⟩ : ∃ q : Nat, bits .and .i64 a1 3 = q ∧ q < 4 := ⟨(a1 % 4).toNat, by rw [and3]; omega, by omega⟩
  have HT : Hid (TX w) := ht
  have c0 := awake_c ht
  have HK : Hid (k < 64) := hk64
  have HQ : Hid (q < 4) := hq4
  clear l0 u0 l1 u1 ht hk64 hq4
  go_enter Tryd.func6, Tryd.ntmps6
  go_wp2_with fail
  refine c0.mono ?_
  rintro e W1 ⟨rfl, b1⟩
  have HB1 : Hid (Below w.heap.size w W1) := b1
  clear b1 c0
  go_wp2_with fail
  go_loopw [6, 7] (fun s i wr => ∃ j : Nat, s = .string ⟨(nst q j).toArray⟩ ∧ i = .int .i64 j ∧ j ≤ k ∧ Below w.heap.size w wr) (fun _ i _ => k - (intOf i).toNat)
  case atStart => exact ⟨0, rfl, rfl, by omega, HB1.out⟩
  case round =>
    obtain ⟨j, rfl, rfl, hj, hb⟩ := hrel
    have HB : Hid (Below w.heap.size w wr) := hb
    clear hb HB1
    by_cases hjk : j < k
    · have d : decide ((j : Int) < (k : Int)) = true := by simp; omega
      have HS : Hid ((⟨(nst q (j + 1)).toArray⟩ : ByteArray) = ⟨(wrp q (nst q j)).toArray⟩) := rfl
      obtain ⟨X, hX⟩ : ∃ X, nst q j = X := ⟨_, rfl⟩
      have hlen := nst_len q j
      rw [hX] at HS hlen ⊢
      have hq4 := HQ.out
      have hk64 := HK.out
      have hqc : q = 0 ∨ q = 1 ∨ q = 2 ∨ q = 3 := by omega
      clear hX HQ hq4
      rcases hqc with rfl | rfl | rfl | rfl
      · replace hq : bits .and .i64 a1 3 = 0 := hq
        go_wp2_with fail
        all_goals first | (exfalso; omega) | skip
        go_roundw
        case rel => exact ⟨j + 1, by rw [HS.out]; simp only [wrp]; exact congrArg _ (ByteArray.ext (by simp)), by go_num, by omega, HB.out⟩
        case measure => simp only [intOf]; omega
      · replace hq : bits .and .i64 a1 3 = 1 := hq
        go_wp2_with fail
        all_goals first | (exfalso; omega) | skip
        go_roundw
        case rel => exact ⟨j + 1, by rw [HS.out]; simp only [wrp]; exact congrArg _ (ByteArray.ext (by simp)), by go_num, by omega, HB.out⟩
        case measure => simp only [intOf]; omega
      · replace hq : bits .and .i64 a1 3 = 2 := hq
        go_wp2_with fail
        all_goals first | (exfalso; omega) | skip
        go_roundw
        case rel => exact ⟨j + 1, by rw [HS.out]; simp only [wrp]; exact congrArg _ (ByteArray.ext (by simp)), by go_num, by omega, HB.out⟩
        case measure => simp only [intOf]; omega
      · replace hq : bits .and .i64 a1 3 = 3 := hq
        go_wp2_with fail
        all_goals first | (exfalso; omega) | skip
        go_roundw
        case rel => exact ⟨j + 1, by rw [HS.out]; simp only [wrp]; exact congrArg _ (ByteArray.ext (by simp)), by go_num, by omega, HB.out⟩
        case measure => simp only [intOf]; omega
    · have d : decide ((j : Int) < (k : Int)) = false := by simp; omega
      obtain rfl : j = k := by omega
      have hall := ENsE.all HQ.out HK.out
      have hlen := nst_len q j
      have hk64 := HK.out
      have c1 := parse_x (s := ⟨(nst q j).toArray⟩) (by show (nst q j).toArray.size ≤ _; simp; omega) (HT.out.later HB.out)
      unfold okk at hall
      obtain ⟨X, hX⟩ : ∃ X, nst q j = X := ⟨_, rfl⟩
      rw [hX] at c1 hall ⊢
      have HXS : Hid ((⟨X.toArray⟩ : ByteArray).size = X.length) := by show X.toArray.size = _; simp
      clear hX hlen hjk
      cases hp : prs ⟨X.toArray⟩ with
      | ok x =>
        rw [hp] at c1 hall
        have hlt : j < 32 := of_decide_eq_true hall
        have d32 : decide ((j : Int) < 32) = true := by simp; omega
        clear hp hall hlt
        go_wp2_with fail
        refine c1.mono ?_
        rintro e W2 ⟨b2, m, a, cap, rfl, hin⟩
        have HB2 : Hid (Below w.heap.size w W2) := HB.out.trans (b2.mono HB.out.size)
        clear c1 b2 hin
        go_wp2_with (first | (go_at_call 10; refine (num_c _ _).mono ?_; rintro e w' ⟨rfl, rfl⟩))
        go_ret
        exact ⟨rfl, HB2.out.alloc HB2.out.size _⟩
      | error f =>
        obtain ⟨c, p⟩ := f
        rw [hp] at c1 hall
        simp only [Bool.and_eq_true, decide_eq_true_eq, beq_iff_eq] at hall
        obtain ⟨hge, rfl, hp0, hpl⟩ := hall
        have d32 : decide ((j : Int) < 32) = false := by simp; omega
        clear hp hge
        go_wp2_with fail
        refine c1.mono ?_
        rintro e W2 ⟨b2, rfl⟩
        have HB2 : Hid (Below w.heap.size w W2) := HB.out.trans (b2.mono HB.out.size)
        clear c1 b2
        go_wp2_with (first | (go_at_call 10; refine (num_c _ _).mono ?_; rintro e w' ⟨rfl, rfl⟩))
        all_goals first | (exfalso; omega) | skip
        go_ret
        exact ⟨rfl, HB2.out.alloc HB2.out.size _⟩
end Go.Proofs.YtofpdnhnlkocoaaDoor.WNests

/- The walk of the law LisKeys. -/
import Derived.Test.YtkjgbmoimobgaaaIComm
import Derived.Test.YtkjgbmoimobgaaaIKeys
namespace Go.Proofs.Ytkjgbmoimobgaaa.WKeys
open Go.RowKit Go.Proofs.Ytkjgbmoimobgaaa.IPure Go.Proofs.Ytkjgbmoimobgaaa.IBase Go.Proofs.Ytkjgbmoimobgaaa.IKey Go.Proofs.Ytkjgbmoimobgaaa.IKrow Go.Proofs.Ytkjgbmoimobgaaa.IMoves Go.Proofs.Ytkjgbmoimobgaaa.IAw Go.Proofs.Ytkjgbmoimobgaaa.IComm Go.Proofs.Ytkjgbmoimobgaaa.IKeys
set_option linter.unusedVariables false

set_option maxRecDepth 20000 in
set_option maxHeartbeats 1600000 in
theorem walk {w : World} {v u : Value} {L M : List Ky} (hv : Kx w v L) (hn : L.length * 32 ≤ 140737488351232) (ho : ∀ y ∈ L, Ok y) (hu : Kx w u M) (hn2 : M.length * 32 ≤ 140737488351232) (ho2 : ∀ y ∈ M, Ok y) :
    Calls Try.prog 7 #[v, u] w fun e w' => e = .returned (.bool true) ∧ Below w.heap.size w w' := by
  have HV : Hid (∀ w', Below w.heap.size w w' → Kx w' v L) := fun w' h => hv.below h
  have HU : Hid (∀ w', Below w.heap.size w w' → Kx w' u M) := fun w' h => hu.below h
  have hok : OkL L := ⟨ho, by omega⟩
  have hok2 : OkL M := ⟨ho2, by omega⟩
  have hvs : ∃ a cap, v = .slice a L.length cap := by
    obtain ⟨a, cap, rfl, -⟩ := hv
    exact ⟨a, cap, rfl⟩
  obtain ⟨va0, vc0, rfl⟩ := hvs
  clear hv hu ho ho2
  have hcomm : Hid (mv L M = mv M L) := mv_comm L M
  go_enter Try.func7, Try.ntmps7
  go_wp2_with (first | (go_at_call 14; refine (awake_c _).mono ?_; rintro e w1 ⟨rfl, b1⟩))
  refine (copyK_c (HV.out w1 b1) hok.2).mono ?_
  rintro e w2 ⟨u1, rfl, hC1, b2⟩
  have B2 := nx b1 b2
  go_wp2_with fail
  refine (copyK_c (HU.out w2 B2) hok2.2).mono ?_
  rintro e w3 ⟨u2, rfl, hC2, b3⟩
  have B3 := nx B2 b3
  have cM := moves_c (hC1.kx.below b3) hC2.kx hok hok2
  go_wp2_with fail
  refine cM.mono ?_
  rintro e w4 ⟨rfl, b4⟩
  have B4 := nx B3 b4
  clear cM
  go_wp2_with fail
  refine (copyK_c (HU.out w4 B4) hok2.2).mono ?_
  rintro e w5 ⟨u3, rfl, hC3, b5⟩
  have B5 := nx B4 b5
  go_wp2_with fail
  refine (copyK_c (HV.out w5 B5) hok.2).mono ?_
  rintro e w6 ⟨u4, rfl, hC4, b6⟩
  have B6 := nx B5 b6
  have cM := moves_c (hC3.kx.below b6) hC4.kx hok2 hok
  rw [← hcomm.out] at cM
  go_wp2_with fail
  refine cM.mono ?_
  rintro e w7 ⟨rfl, b7⟩
  have B7 := nx B6 b7
  clear cM
  by_cases hnd : L.Nodup ∧ M.Nodup
  · have HM : Hid (mv L M = (((rowOf L M).length : Int), ((rowOf L M).length : Int) - K (rowOf L M), 0)) := if_pos hnd
    rw [HM.out]
    have hKl := K_le (rowOf L M)
    have hKp := K_pos (L := rowOf L M)
    have hrl := rowOf_len L M
    have hself := mv_self hnd.1
    have HS : Hid (mv L L = ((L.length : Int), 0, 0)) := hself
    clear hself HM hcomm
    generalize (rowOf L M).length = r at *
    generalize K (rowOf L M) = k at *
    have e1 : ((r : Int) == (r : Int)) = true := by simp
    have e2 : (((r : Int) - (k : Int)) == ((r : Int) - (k : Int))) = true := by simp
    have e3 : decide (((r : Int) - (k : Int)) ≤ (r : Int)) = true := decide_eq_true (by omega)
    go_wp2_with (first | (go_at_call 18; refine (num_c _ _).mono ?_; rintro e w' ⟨rfl, rfl⟩))
    refine (copyK_c (HV.out _ B7) hok.2).mono ?_
    rintro e w8 ⟨u5, rfl, hC5, b8⟩
    have B8 := nx B7 b8
    go_wp2_with fail
    refine (copyK_c (HV.out w8 B8) hok.2).mono ?_
    rintro e w9 ⟨u6, rfl, hC6, b9⟩
    have B9 := nx B8 b9
    have cM := moves_c (hC5.kx.below b9) hC6.kx hok hok
    rw [HS.out] at cM
    go_wp2_with fail
    refine cM.mono ?_
    rintro e w10 ⟨rfl, b10⟩
    have B10 := nx B9 b10
    clear cM
    have e4 : ((L.length : Int) == (L.length : Int)) = true := by simp
    by_cases hr : r = 0
    · have e5 : ((r : Int) == 0) = true := by simp [hr]
      clear hr
      go_wp2_with (first | (go_at_call 18; refine (num_c _ _).mono ?_; rintro e w' ⟨rfl, rfl⟩))
      go_ret
      exact ⟨rfl, B10⟩
    · have e5 : ((r : Int) == 0) = false := by simp; omega
      have e6 : decide (((r : Int) - (k : Int)) < (r : Int)) = true := decide_eq_true (by have := hKp (by omega); omega)
      clear hr
      go_wp2_with (first | (go_at_call 18; refine (num_c _ _).mono ?_; rintro e w' ⟨rfl, rfl⟩))
      go_ret
      exact ⟨rfl, B10⟩
  · have HM : Hid (mv L M = (0, 0, 900)) := if_neg hnd
    rw [HM.out]
    clear hcomm
    go_wp2_with (first | (go_at_call 18; refine (num_c _ _).mono ?_; rintro e w' ⟨rfl, rfl⟩))
    go_ret
    exact ⟨rfl, B7⟩
end Go.Proofs.Ytkjgbmoimobgaaa.WKeys

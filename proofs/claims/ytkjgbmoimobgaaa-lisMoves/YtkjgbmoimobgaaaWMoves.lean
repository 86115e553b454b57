/- The walk of the law LisMoves. -/
import Derived.Test.YtkjgbmoimobgaaaIRMov
import Derived.Test.YtkjgbmoimobgaaaILendK
namespace Go.Proofs.Ytkjgbmoimobgaaa.WMoves
open Go.RowKit Go.Proofs.Ytkjgbmoimobgaaa.IPure Go.Proofs.Ytkjgbmoimobgaaa.IBase Go.Proofs.Ytkjgbmoimobgaaa.IKey Go.Proofs.Ytkjgbmoimobgaaa.IKrow Go.Proofs.Ytkjgbmoimobgaaa.IMoves Go.Proofs.Ytkjgbmoimobgaaa.IAw Go.Proofs.Ytkjgbmoimobgaaa.IKeys Go.Proofs.Ytkjgbmoimobgaaa.IRMov Go.Proofs.Ytkjgbmoimobgaaa.ILendK
set_option linter.unusedVariables false

set_option maxRecDepth 20000 in
set_option maxHeartbeats 1600000 in
theorem walk {w : World} {v u : Value} {L M : List Ky} (hv : Kx w v L) (hn : L.length * 32 ≤ 140737488351232) (ho : ∀ y ∈ L, Ok y) (hu : Kx w u M) (hn2 : M.length * 32 ≤ 140737488351232) (ho2 : ∀ y ∈ M, Ok y) :
    Calls Try.prog 4 #[v, u] w fun e w' => e = .returned (.bool true) ∧ Below w.heap.size w w' := by
  have hok : OkL L := ⟨ho, by omega⟩
  have hok2 : OkL M := ⟨ho2, by omega⟩
  have c1 := lendK_c hv (by omega)
  clear ho ho2
  go_enter Try.func4, Try.ntmps4
  go_wp2_with (first | (go_at_call 15; refine c1.mono ?_; clear c1; rintro e w1 ⟨x, rfl, hx, b1⟩))
  refine (lendK_c (hu.below b1) (by omega)).mono ?_
  rintro e w2 ⟨y, rfl, hy, b2⟩
  have B2 := nx b1 b2
  have hx2 := hx.below b2
  have cM := moves_c hx2.kx hy.kx hok hok2
  go_wp2_with fail
  refine cM.mono ?_
  rintro e w3 ⟨rfl, b3⟩
  have B3 := nx B2 b3
  clear cM
  have cR := rmoves_c (hv.below B3) (hu.below B3) hok hok2
  go_wp2_with fail
  refine cR.mono ?_
  rintro e w4 ⟨rfl, b4⟩
  have B4 := nx B3 b4
  clear cR
  have cK := keptK_c ((hx2.below b3).below b4) (hv.below B4) hok (by omega)
  have HY : Hid (∀ w5, Below w4.heap.size w4 w5 → Lk w5 y M ∧ Kx w5 u M) := fun w5 h => ⟨((hy.below b3).below b4).below h, hu.below (nx B4 h)⟩
  clear hx hx2 hy hv hu
  generalize (mv L M).1 = m1 at *
  generalize (mv L M).2.1 = m2 at *
  generalize (mv L M).2.2 = m3 at *
  have e1 : (m1 == m1) = true := by simp
  have e2 : (m2 == m2) = true := by simp
  have e3 : (m3 == m3) = true := by simp
  go_wp2_with (first
    | (go_at_call 18; refine (num_c _ _).mono ?_; rintro e w' ⟨rfl, rfl⟩)
    | (go_at_call 19; refine cK.mono ?_; clear cK; rintro e w5 ⟨rfl, b5⟩))
  refine (keptK_c (HY.out w5 b5).1 (HY.out w5 b5).2 hok2 (by omega)).mono ?_
  rintro e w6 ⟨rfl, b6⟩
  go_wp2_with (first | (go_at_call 14; refine (awake_c _).mono ?_; rintro e w7 ⟨rfl, b7⟩))
  go_ret
  exact ⟨rfl, nx (nx (nx B4 b5) b6) b7⟩
end Go.Proofs.Ytkjgbmoimobgaaa.WMoves

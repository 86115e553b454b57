/- Contracts of Valid, the program's and the document's. -/
import Derived.Test.YtmoblfdepcjgfaaDoorULength
import Derived.LoopTactic
namespace Go.Proofs.YtmoblfdepcjgfaaDoor.UValid
open Go.ChangeShapes Go.WideShapes Go.ChangeAt Go.RowKit Go.Proofs.YtmoblfdepcjgfaaDoor.UBase Go.Proofs.YtmoblfdepcjgfaaDoor.USmall Go.Proofs.YtmoblfdepcjgfaaDoor.ULength
set_option linter.unusedVariables false

theorem vat_of {s : ByteArray} {o : Option Nat} (h : bad s 0 = o) : vat s = o.getD 0 := by unfold vat; rw [h]
theorem verr_none {s : ByteArray} (h : bad s 0 = none) : vat s = 0 ∧ verr s = 0 := by unfold vat verr; rw [h]; simp
theorem verr_some {s : ByteArray} {i : Nat} (h : bad s 0 = some i) : vat s = i ∧ verr s = 300 := by unfold vat verr; rw [h]; simp
theorem rvalid_c (s : ByteArray) (hs : s.size ≤ 140737488351232) (w : World) :
    Calls Tryd.prog 72 #[.string s] w fun r w' => r = .returned (.tuple #[.int .i64 (vat s), .int .i64 (verr s)]) ∧ w' = w := by
  go_enter Tryd.func72, Tryd.ntmps72
  go_wp2
  go_loop [4] (fun i => ∃ n : Nat, n ≤ s.size ∧ i = .int .i64 n ∧ bad s 0 = bad s n) (fun i => s.size - (intOf i).toNat)
  case atStart => exact ⟨0, by omega, rfl, rfl⟩
  case round =>
    obtain ⟨n, hn, rfl, hb⟩ := hrel
    have HB : Hid (bad s 0 = bad s n) := hb
    clear hb
    by_cases hlt : n < s.size
    · by_cases hz : len s n = 0
      · have hz' : (len s n : Int) = 0 := by omega
        go_wp2_with (first | (go_at_call 77; refine (length_c s n hlt hs _).mono ?_; rintro e w' ⟨rfl, rfl⟩))
        go_ret2
        have e := verr_some (HB.out.trans (bad_here hlt hz))
        rw [e.1, e.2]
        exact ⟨rfl, rfl⟩
      · have hz' : ((len s n : Int) == 0) = false := by simp; exact hz
        have hi := len_in hlt
        go_wp2_with (first | (go_at_call 77; refine (length_c s n hlt hs _).mono ?_; rintro e w' ⟨rfl, rfl⟩))
        go_round
        case rel => exact ⟨n + len s n, hi, by go_num, HB.out.trans (bad_step hlt hz)⟩
        case measure => simp only [intOf]; omega
    · go_wp2
      go_ret2
      have e := verr_none (HB.out.trans (bad_end hlt))
      rw [e.1, e.2]
      exact ⟨rfl, rfl⟩
end Go.Proofs.YtmoblfdepcjgfaaDoor.UValid

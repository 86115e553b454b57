/- Texts that may be (package short). -/
import Derived.Test.YthjbknncbhkinaaGreatDoorUOwn
import Derived.Test.YthjbknncbhkinaaGreatDoorBase
namespace Go.Proofs.YthjbknncbhkinaaGreatDoor.STx
open Go.RowKit Go.Proofs.YthjbknncbhkinaaGreatDoor.Base Go.Proofs.YthjbknncbhkinaaGreatDoor.UBase Go.Proofs.YthjbknncbhkinaaGreatDoor.UValid Go.Proofs.YthjbknncbhkinaaGreatDoor.UOwn
set_option linter.unusedVariables false

/-- A text that may be. -/
def tg (s : ByteArray) : Bool := decide (s.size ≤ 4096) && (verr s == 0)
theorem iter_below (w : World) (s : ByteArray) (p : Nat) : Below w.heap.size w (w.iter s p) := (Below.refl _ w).alloc (Nat.le_refl _) _
theorem verr_cases (s : ByteArray) : verr s = 0 ∨ verr s = 300 := by
  cases h : bad s 0 with
  | none => exact .inl (verr_none h).2
  | some i => exact .inr (verr_some h).2
theorem tmb_c (s : ByteArray) (hs : s.size ≤ 140737488351232) (w : World) :
    Calls Tryz.prog 50 #[.string s] w fun r w' => r = .returned (.bool (tg s)) ∧ Below w.heap.size w w' := by
  have c71 := valid_c s (by omega) w
  by_cases h : s.size ≤ 4096
  · have e : tg s = (verr s == 0) := by simp [tg, h]
    rw [e]
    have hv := verr_cases s
    generalize verr s = x at *
    generalize vat s = y at *
    have h' : decide ((4096 : Int) < (s.size : Int)) = false := decide_eq_false (by omega)
    clear e
    rcases hv with rfl | rfl
    · go_enter Tryz.func50, Tryz.ntmps50
      go_wp2_with (first | (go_at_call 72; refine c71.mono ?_; rintro e w' ⟨rfl, p, rfl⟩))
      go_ret
      exact ⟨rfl, iter_below _ _ _⟩
    · go_enter Tryz.func50, Tryz.ntmps50
      go_wp2_with (first | (go_at_call 72; refine c71.mono ?_; rintro e w' ⟨rfl, p, rfl⟩))
      go_ret
      exact ⟨rfl, iter_below _ _ _⟩
  · have e : tg s = false := by simp [tg, h]
    rw [e]
    have h' : decide ((4096 : Int) < (s.size : Int)) = true := decide_eq_true (by omega)
    clear c71 e
    go_enter Tryz.func50, Tryz.ntmps50
    go_wp2_with fail
    go_ret
    exact ⟨rfl, Below.refl _ _⟩
end Go.Proofs.YthjbknncbhkinaaGreatDoor.STx

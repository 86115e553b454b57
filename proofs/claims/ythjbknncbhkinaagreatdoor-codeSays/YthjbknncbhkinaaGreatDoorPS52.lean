import Derived.Deep.RegionHeld3
import Derived.Lib.ItoaLen
import Derived.Test.YthjbknncbhkinaaGreatDoorPS03
import Derived.Test.YthjbknncbhkinaaGreatDoorPS04
import Derived.Test.YthjbknncbhkinaaGreatDoorPS12
open Go.Proofs.Tryz
set_option linter.unusedVariables false
set_option maxRecDepth 20000
namespace Go.Proofs.YthjbknncbhkinaaGreatDoor.GDe
open Go.RowKit Base Shallow
theorem shallows_c {m : Nat} {v : Value} {l : List C} {w : World} (h : InL false All w m v l) :
  Calls prog 20 #[v] w fun r w' => r = .returned (.bool (decide (depL l <= 4096))) /\ Below w.heap.size w w' := by
 obtain ⟨a, cap, rfl, hl, hcap, hlen, ha, hL⟩ := h.out
 clear h
 go_enter func20, ntmps20
 go_wp2_with fail
 go_loopw [3] (fun i' wr => ∃ q : Nat, q <= l.length /\ i' = .int .i64 q /\ (∀ j (h : j < l.length), j < q -> dep l[j] <= 4096) /\ Below w.heap.size w wr) (fun i' _ => l.length - (intOf i').toNat)
 case atStart => exact ⟨0, by omega, rfl, fun j _ h => by omega, Below.refl _ _⟩
 case round =>
  obtain ⟨q, hq, rfl, hall, hb⟩ := hrel
  by_cases hlt : q < l.length
  ·obtain ⟨g, o, u, rfl, -, hu, hin⟩ := elem_at hL hlt
   have hu := six_below hu hb
   have hin := hin.below hb
   obtain ⟨v0, v1, v2, v3, v4, v5, rfl, d0, d1, d2, d3, d4, d5⟩ := hu
   have cV := value_c _ _ _ 4096 wr (by omega) hin
   have HA : Hid _ := hall
   clear hin hall
   go_wp2_with fail
   refine cV.mono ?_
   rintro e w2 ⟨rfl, b2⟩
   cases hd : decide (dep l[q] <= 4096) with
   | true =>
    go_wp2_with fail
    go_roundw
    case rel =>
     refine ⟨q + 1, by omega, by go_num, fun j hj hjq => ?_, nx hb b2⟩
     by_cases e : j = q
     ·subst e
      exact of_decide_eq_true hd
     ·exact HA.out j hj (by omega)
    case measure => simp only [intOf]; omega
   | false =>
    go_wp2_with fail
    go_ret
    refine ⟨?_, nx hb b2⟩
    have h1 : ¬ dep l[q] <= 4096 := of_decide_eq_false hd
    have : ¬ depL l <= 4096 := fun h => h1 (depL_le.1 h q hlt)
    simp [this]
  ·have hlt' : decide ((q : Int) < (l.length : Int)) = false := by simp; omega
   go_wp2_with fail
   go_ret
   refine ⟨?_, hb⟩
   have : depL l <= 4096 := depL_le.2 fun j hj => hall j hj (by omega)
   simp [this]
end Go.Proofs.YthjbknncbhkinaaGreatDoor.GDe

import Derived.LoopN
import Derived.LoopTactic
import Derived.Test.YthjbknncbhkinaaGreatDoorPS00
open Go.Proofs.Tryz
set_option linter.unusedVariables false
namespace Go.Proofs.YthjbknncbhkinaaGreatDoor.SameT
open Go.RowKit Base
theorem sameT_c (u v : Value) (L : List ByteArray) (w : World) (hu : Tx false All w u L) (hv : Tx false All w v L) :
  Calls prog 12 #[u, v] w fun e w' => e = .returned (.bool true) /\ Below w.heap.size w w' := by
 obtain ⟨a, cap, rfl, hlc, hm, hlen, hsz, hnil, hN⟩ := hu.out
 obtain ⟨a', cap', rfl, hlc', hm', hlen', hsz', hnil', hN'⟩ := hv.out
 clear hu hv hsz hsz' hlen'
 go_enter func12, ntmps12
 go_wp2_with fail
 go_loopw [5] (fun i wr => ∃ q : Nat, q <= L.length /\ i = .int .i64 q /\ Below w.heap.size w wr) (fun i _ => L.length - (intOf i).toNat)
 case atStart => exact ⟨0, by omega, rfl, Below.refl _ _⟩
 case round =>
  obtain ⟨q, hq, rfl, hb⟩ := hrel
  by_cases hlt : q < L.length
  ·obtain ⟨g, o, rfl, -, hc⟩ := name_at hN hlt
   obtain ⟨g', o', rfl, -, hc'⟩ := name_at hN' hlt
   have hc := below_cell hc hb
   have hc' := below_cell hc' hb
   have hb' := hb.drew
   generalize L[q] = x at *
   clear hN hN'
   go_wp2_with fail
   go_region
   all_goals go_wp2_with fail
   all_goals go_roundw
   all_goals first
    | (case rel => exact ⟨q + 1, by omega, by go_num, hb'⟩)
    | (case measure => simp only [intOf]; omega)
  ·have hlt' : decide ((q : Int) < (L.length : Int)) = false := by simp; omega
   go_wp2_with fail
   go_ret
   exact ⟨rfl, hb⟩
end Go.Proofs.YthjbknncbhkinaaGreatDoor.SameT

import Derived.Deep.RegionWith
import Derived.Test.YtaiackmmmlhgbaaGreatPR02
open Go.Proofs.Tryz
set_option linter.unusedVariables false
namespace Go.Proofs.YtaiackmmmlhgbaaGreat.TKept
open Go.RowKit TBase
theorem sameA_c (u v : Value) (L : List (ByteArray × ByteArray)) (w : World) (hu : Ax false All w u L) (hv : Ax false All w v L) :
    Calls prog 117 #[u, v] w fun e w' => e = .returned (.bool true) /\ Below w.heap.size w w' := by
  obtain ⟨a, cap, rfl, hlc, hm, hlen, hsz, hnil, hN⟩ := hu
  obtain ⟨a', cap', rfl, hlc', hm', hlen', hsz', hnil', hN'⟩ := hv
  clear hsz hsz' hlen'
  go_enter func117, ntmps117
  go_wp2_with fail
  go_loopw [5] (fun i wr => ∃ q : Nat, q <= L.length /\ i = .int .i64 q /\ Below w.heap.size w wr) (fun i _ => L.length - (intOf i).toNat)
  case atStart => exact ⟨0, by omega, rfl, Below.refl _ _⟩
  case round =>
    obtain ⟨q, hq, rfl, hb⟩ := hrel
    by_cases hlt : q < L.length
    · obtain ⟨g, o, rfl, -, hc, hd⟩ := attr_at hN hlt
      obtain ⟨g', o', rfl, -, hc', hd'⟩ := attr_at hN' hlt
      have hc := below_cell hc hb
      have hc' := below_cell hc' hb
      have hd := below_cell hd hb
      have hd' := below_cell hd' hb
      have hb' := hb.drew
      generalize L[q].1 = x at *
      generalize L[q].2 = y at *
      clear hN hN'
      go_wp2_with fail
      go_region
      all_goals go_wp2_with fail
      all_goals go_roundw
      all_goals first
        | (case rel => exact ⟨q + 1, by omega, by go_num, hb'⟩)
        | (case measure => simp only [intOf]; omega)
    · have hlt' : decide ((q : Int) < (L.length : Int)) = false := by simp; omega
      go_wp2_with fail
      go_ret
      exact ⟨rfl, hb⟩
end Go.Proofs.YtaiackmmmlhgbaaGreat.TKept

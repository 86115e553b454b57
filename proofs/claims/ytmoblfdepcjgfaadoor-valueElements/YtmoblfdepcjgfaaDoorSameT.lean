/- Texts that are the same, and as they were lent: contracts of SameTexts and KeptTexts at lists that hold the same. -/
import Derived.Test.YtmoblfdepcjgfaaDoorRow
import Derived.LoopTactic
import Derived.LoopN
namespace Go.Proofs.YtmoblfdepcjgfaaDoor.SameT
open Go.RowKit Go.Proofs.YtmoblfdepcjgfaaDoor.Base
set_option linter.unusedVariables false

theorem sameT_c (u v : Value) (L : List ByteArray) (w : World) (hu : Tx false All w u L) (hv : Tx false All w v L) :
    Calls Tryd.prog 50 #[u, v] w fun e w' => e = .returned (.bool true) ∧ Below w.heap.size w w' := by
  obtain ⟨a, cap, rfl, hlc, hm, hlen, hsz, hnil, hN⟩ := hu.out
  obtain ⟨a', cap', rfl, hlc', hm', hlen', hsz', hnil', hN'⟩ := hv.out
  clear hu hv hsz hsz' hlen'
  go_enter Tryd.func50, Tryd.ntmps50
  go_wp2_with fail
  go_loopw [5] (fun i wr => ∃ q : Nat, q ≤ L.length ∧ i = .int .i64 q ∧ Below w.heap.size w wr) (fun i _ => L.length - (intOf i).toNat)
  case atStart => exact ⟨0, by omega, rfl, Below.refl _ _⟩
  case round =>
    obtain ⟨q, hq, rfl, hb⟩ := hrel
    by_cases hlt : q < L.length
    · obtain ⟨g, o, rfl, -, hc⟩ := name_at hN hlt
      obtain ⟨g', o', rfl, -, hc'⟩ := name_at hN' hlt
      have hc := below_cell hc hb
      have hc' := below_cell hc' hb
      have hb' := hb.drew
      generalize L[q] = x at *
      clear hN hN'
      go_wp2_with fail
      go_region
      all_goals go_wp2_with fail
      all_goals go_roundw
      all_goals first
        | (case rel => exact ⟨q + 1, by omega, by go_num, hb'⟩)
        | (case measure => simp only [intOf]; omega)
    · have hlt' : decide ((q : Int) < (L.length : Int)) = false := by simp; omega
      go_wp2_with fail
      go_ret
      exact ⟨rfl, hb⟩
theorem keptT_c {S : Nat → Prop} (u v : Value) (L : List ByteArray) (w : World) (hu : Tx true S w u L) (hv : Tx false All w v L) :
    Calls Tryd.prog 39 #[u, v] w fun e w' => e = .returned (.bool true) ∧ Below w.heap.size w w' := by
  have c50 := sameT_c u v L w hu.plain hv
  obtain ⟨a, cap, rfl, hlc, hm, hlen, hsz, hnil, hN⟩ := hu.out
  obtain ⟨a', cap', rfl, hlc', hm', -, -, hnil', -⟩ := hv.out
  obtain ⟨g, o, rfl, -, -, hr⟩ : ∃ g o, a = some ⟨g, o, none⟩ ∧ S g ∧ (∀ j (h : j < L.length), w.cell? ⟨g, o + j, none⟩ = some (.string L[j])) ∧
      (true = true → L.length + 2 ≤ cap ∧ w.cell? ⟨g, o + L.length, none⟩ = some (.string room) ∧ w.cell? ⟨g, o + L.length + 1, none⟩ = some (.string behind)) := by
    rcases hN with ⟨_, h⟩ | h
    · cases h
    · exact h
  obtain ⟨h2, r1, r2⟩ := hr rfl
  clear hu hv hsz hr hN
  generalize L.length = n at *
  go_enter Tryd.func39, Tryd.ntmps39
  go_wp2_with (first | (go_at_call 50; refine c50.mono ?_; rintro e w1 ⟨rfl, b1⟩; have r1' : w1.cell? ⟨g, o + n, none⟩ = some (.string ⟨#[126, 114, 111, 111, 109]⟩) := below_cell r1 b1; have r2' : w1.cell? ⟨g, o + (n + 1), none⟩ = some (.string ⟨#[126, 98, 101, 104, 105, 110, 100]⟩) := below_cell r2 b1))
  go_ret
  exact ⟨rfl, b1⟩
end Go.Proofs.YtmoblfdepcjgfaaDoor.SameT

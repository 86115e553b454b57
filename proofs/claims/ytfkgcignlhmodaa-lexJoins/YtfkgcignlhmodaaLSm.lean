/- Templates: contract of SameTokens, at rows of the same tokens. -/
import Derived.Test.YtfkgcignlhmodaaLCv
import Derived.BigQuiet
import Derived.LoopTactic
namespace Go.Proofs.Ytfkgcignlhmodaa.LSm
open Go.RowKit Go.Proofs.Ytfkgcignlhmodaa.UBase Go.Proofs.Ytfkgcignlhmodaa.EPure Go.Proofs.Ytfkgcignlhmodaa.LSc Go.Proofs.Ytfkgcignlhmodaa.LIn Go.Proofs.Ytfkgcignlhmodaa.LMu Go.Proofs.Ytfkgcignlhmodaa.LTk Go.Proofs.Ytfkgcignlhmodaa.LLy Go.Proofs.Ytfkgcignlhmodaa.LLz
set_option linter.unusedVariables false

/-- What is compared of a token. -/
def key (x : Tz) : Nat × ByteArray × ByteArray × Nat := (x.k, x.n, x.t, x.a)
theorem Rt.key {w : World} {v : Value} {xs ys : List Tz} (h : Rt w v xs) (hk : xs.map key = ys.map key) : Rt w v ys := by
  have hl : xs.length = ys.length := by have := congrArg List.length hk; simpa using this
  obtain ⟨⟨h1, h2⟩ | ⟨g, cap, h2, h3, h5, h6, h7⟩⟩ := h
  · subst h2
    exact ⟨.inl ⟨h1, List.eq_nil_of_length_eq_zero hl.symm⟩⟩
  · refine ⟨.inr ⟨g, cap, by rw [← hl]; exact h2, h3, by omega, h6, fun i hi => ?_⟩⟩
    have := h7 i (by omega)
    have e : LSm.key (xs[i]'(by omega)) = LSm.key ys[i] := by
      have := congrArg (fun l => l[i]?) hk
      simp only [List.getElem?_map, List.getElem?_eq_getElem hi, List.getElem?_eq_getElem (show i < xs.length by omega), Option.map_some, Option.some.injEq] at this
      exact this
    simp only [LSm.key, Prod.mk.injEq] at e
    rw [← e.1, ← e.2.1, ← e.2.2.1, ← e.2.2.2]
    exact this
set_option maxRecDepth 20000 in
set_option maxHeartbeats 1600000 in
theorem same_c {w : World} {v u : Value} {xs : List Tz} (hv : Rt w v xs) (hu : Rt w u xs) (hl : xs.length ≤ 140737488351232) :
    Calls Try.prog 10 #[v, u] w fun e w' => e = .returned (.bool true) ∧ ∃ n, w' = w.drewN n := by
  have shape : ∀ {z : Value}, Rt w z xs → ∃ a cap, z = .slice a xs.length cap ∧ (∀ i (h : i < xs.length), ∃ g, a = some ⟨g, 0, none⟩ ∧ xs.length ≤ cap ∧ w.cell? ⟨g, i * 4, none⟩ = some (.int .i64 xs[i].k) ∧ w.cell? ⟨g, i * 4 + 1, none⟩ = some (.string xs[i].n) ∧ w.cell? ⟨g, i * 4 + 2, none⟩ = some (.string xs[i].t) ∧ w.cell? ⟨g, i * 4 + 3, none⟩ = some (.int .i64 xs[i].a)) := by
    intro z h
    obtain ⟨⟨h1, h2⟩ | ⟨g, cap, h2, h3, h5, h6, h7⟩⟩ := h
    · refine ⟨none, 0, by rw [h1, h2]; rfl, fun i hi => ?_⟩
      rw [h2] at hi
      simp at hi
    · exact ⟨_, cap, h2, fun i hi => ⟨g, rfl, h5, h7 i hi⟩⟩
  obtain ⟨a, ca, rfl, ha⟩ := shape hv
  obtain ⟨b, cb, rfl, hb⟩ := shape hu
  clear shape hv hu
  have d0 : ((xs.length : Int) != (xs.length : Int)) = false := by simp
  go_enter Try.func10, Try.ntmps10
  go_wp2_with fail
  go_loopw [5] (fun i wr => ∃ j n : Nat, i = .int .i64 j ∧ j ≤ xs.length ∧ wr = w.drewN n) (fun i _ => xs.length - (intOf i).toNat)
  case atStart => exact ⟨0, 0, rfl, Nat.zero_le _, rfl⟩
  case round =>
    obtain ⟨j, n, rfl, hj, hwr⟩ := hrel
    by_cases hjl : j < xs.length
    · obtain ⟨g, rfl, hca, a0, a1, a2, a3⟩ := ha j hjl
      obtain ⟨h, rfl, hcb, b0, b1, b2, b3⟩ := hb j hjl
      have tr : ∀ {g o : Nat} {y : Value}, w.cell? ⟨g, o, none⟩ = some y → wr.cell? ⟨g, o, none⟩ = some y := fun h => by rw [hwr]; exact h
      replace a0 := tr a0
      replace a1 := tr a1
      replace a2 := tr a2
      replace a3 := tr a3
      replace b0 := tr b0
      replace b1 := tr b1
      replace b2 := tr b2
      replace b3 := tr b3
      have HW : Hid (wr = w.drewN n) := hwr
      generalize xs[j] = x at *
      have e1 : decide ((j : Int) < (xs.length : Int)) = true := decide_eq_true (by omega)
      clear ha hb tr hwr
      go_wp2_with fail
      go_quiet (fail)
      go_wp2_with fail
      go_roundw
      case rel => exact ⟨j + 1, n + nq, by simp, by omega, by rw [HW.out, World.drewN_drewN]⟩
      case measure => simp [intOf]; omega
    · have e1 : decide ((j : Int) < (xs.length : Int)) = false := decide_eq_false (by omega)
      clear ha hb
      have HW : Hid (wr = w.drewN n) := hwr
      clear hwr
      go_wp2_with fail
      go_ret
      exact ⟨rfl, n, HW.out⟩
end Go.Proofs.Ytfkgcignlhmodaa.LSm

/- Templates: contract of SameTokens, at rows of the same tokens. -/
import Derived.Test.YtfglbgnjgapehaaLCv
import Derived.BigQuiet
import Derived.LoopTactic
import Derived.Test.YtfglbgnjgapehaaLLz
namespace Go.Proofs.Ytfglbgnjgapehaa.LSm
open Go.RowKit Go.Proofs.Ytfglbgnjgapehaa.UBase Go.Proofs.Ytfglbgnjgapehaa.EPure Go.Proofs.Ytfglbgnjgapehaa.LSc Go.Proofs.Ytfglbgnjgapehaa.LIn Go.Proofs.Ytfglbgnjgapehaa.LMu Go.Proofs.Ytfglbgnjgapehaa.LTk Go.Proofs.Ytfglbgnjgapehaa.LLy Go.Proofs.Ytfglbgnjgapehaa.LLz
set_option linter.unusedVariables false

/-- What is compared of a token. -/
def key (x : Tz) : Nat × ByteArray × ByteArray × Nat := (x.k, x.n, x.t, x.a)
theorem Rt.key {w : World} {v : Value} {xs ys : List Tz} (h : Rt w v xs) (hk : xs.map key = ys.map key) : Rt w v ys := by
  have hl : xs.length = ys.length := by have := congrArg List.length hk; simpa using this
  obtain ⟨⟨h1, h2⟩ | ⟨g, cap, h2, h3, h5, h6, h7⟩⟩ := h
  · subst h2
    exact ⟨.inl ⟨h1, List.eq_nil_of_length_eq_zero hl.symm⟩⟩
  · refine ⟨.inr ⟨g, cap, by rw [← hl]; exact h2, h3, by omega, h6, fun i hi => ?_⟩⟩
    have := h7 i (by omega)
    have e : LSm.key (xs[i]'(by omega)) = LSm.key ys[i] := by
      have := congrArg (fun l => l[i]?) hk
      simp only [List.getElem?_map, List.getElem?_eq_getElem hi, List.getElem?_eq_getElem (show i < xs.length by omega), Option.map_some, Option.some.injEq] at this
      exact this
    simp only [LSm.key, Prod.mk.injEq] at e
    rw [← e.1, ← e.2.1, ← e.2.2.1, ← e.2.2.2]
    exact this
set_option maxRecDepth 20000 in
set_option maxHeartbeats 1600000 in
theorem same_c {w : World} {v u : Value} {xs : List Tz} (hv : Rt w v xs) (hu : Rt w u xs) (hl : xs.length ≤ 140737488351232) :
    Calls Try.prog 10 #[v, u] w fun e w' => e = .returned (.bool true) ∧ ∃ n, w' = w.drewN n := by
  have shape : ∀ {z : Value}, Rt w z xs → ∃ a cap, z = .slice a xs.length cap ∧ (∀ i (h : i < xs.length), ∃ g, a = some ⟨g, 0, none⟩ ∧ xs.length ≤ cap ∧ w.cell? ⟨g, i * 4, none⟩ = some (.int .i64 xs[i].k) ∧ w.cell? ⟨g, i * 4 + 1, none⟩ = some (.string xs[i].n) ∧ w.cell? ⟨g, i * 4 + 2, none⟩ = some (.string xs[i].t) ∧ w.cell? ⟨g, i * 4 + 3, none⟩ = some (.int .i64 xs[i].a)) := by
    intro z h
    obtain ⟨⟨h1, h2⟩ | ⟨g, cap, h2, h3, h5, h6, h7⟩⟩ := h
    · refine ⟨none, 0, by rw [h1, h2]; rfl, fun i hi => ?_⟩
      rw [h2] at hi
      simp at hi
    · exact ⟨_, cap, h2, fun i hi => ⟨g, rfl, h5, h7 i hi⟩⟩
  obtain ⟨a, ca, rfl, ha⟩ := shape hv
  obtain ⟨b, cb, rfl, hb⟩ := shape hu
  clear shape hv hu
  have d0 : ((xs.length : Int) != (xs.length : Int)) = false := by simp
  go_enter Try.func10, Try.ntmps10
  go_wp2_with fail
  go_loopw [5] (fun i wr => ∃ j n : Nat, i = .int .i64 j ∧ j ≤ xs.length ∧ wr = w.drewN n) (fun i _ => xs.length - (intOf i).toNat)
  case atStart => exact ⟨0, 0, rfl, Nat.zero_le _, rfl⟩
  case round =>
    obtain ⟨j, n, rfl, hj, hwr⟩ := hrel
    by_cases hjl : j < xs.length
    · obtain ⟨g, rfl, hca, a0, a1, a2, a3⟩ := ha j hjl
      obtain ⟨h, rfl, hcb, b0, b1, b2, b3⟩ := hb j hjl
      have tr : ∀ {g o : Nat} {y : Value}, w.cell? ⟨g, o, none⟩ = some y → wr.cell? ⟨g, o, none⟩ = some y := fun h => by rw [hwr]; exact h
      replace a0 := tr a0
      replace a1 := tr a1
      replace a2 := tr a2
      replace a3 := tr a3
      replace b0 := tr b0
      replace b1 := tr b1
      replace b2 := tr b2
      replace b3 := tr b3
      have HW : Hid (wr = w.drewN n) := hwr
      generalize xs[j] = x at *
      have e1 : decide ((j : Int) < (xs.length : Int)) = true := decide_eq_true (by omega)
      clear ha hb tr hwr
      go_wp2_with fail
      go_quiet (fail)
      go_wp2_with fail
      go_roundw
      case rel => exact ⟨j + 1, n + nq, by simp, by omega, by rw [HW.out, World.drewN_drewN]⟩
      case measure => simp [intOf]; omega
    · have e1 : decide ((j : Int) < (xs.length : Int)) = false := decide_eq_false (by omega)
      clear ha hb
      have HW : Hid (wr = w.drewN n) := hwr
      clear hwr
      go_wp2_with fail
      go_ret
      exact ⟨rfl, n, HW.out⟩
end Go.Proofs.Ytfglbgnjgapehaa.LSm
/- Templates: contract of SpoilTokens, at a row of one's own. -/
namespace Go.Proofs.Ytfglbgnjgapehaa.LSo
open Go.RowKit Go.Proofs.Ytfglbgnjgapehaa.UBase Go.Proofs.Ytfglbgnjgapehaa.EPure Go.Proofs.Ytfglbgnjgapehaa.LIn Go.Proofs.Ytfglbgnjgapehaa.LMu Go.Proofs.Ytfglbgnjgapehaa.LTk Go.Proofs.Ytfglbgnjgapehaa.LLy Go.Proofs.Ytfglbgnjgapehaa.LLz
set_option linter.unusedVariables false

set_option maxRecDepth 20000 in
set_option maxHeartbeats 1600000 in
theorem spoil_c {w : World} {B : Nat} {v : Value} {xs : List Tz} (h : To w B v xs) (hl : xs.length ≤ 65536) (ha : ∀ k (h : k < xs.length), xs[k].a ≤ 65536) :
    Calls Try.prog 11 #[v] w fun e w' => (∃ r, e = .returned r) ∧ Below B w w' ∧ ∀ k, v.ownBlock ≠ some k → w'.heap[k]? = w.heap[k]? := by
  have hr := To.rt h
  obtain ⟨h1, ⟨rfl, h3⟩ | ⟨g, cap, cur, rfl, hg, hh, h5, h6, h7, h8⟩⟩ := h
  · rw [List.eq_nil_of_length_eq_zero h3] at *
    clear hr h1 h3 ha
    go_enter Try.func11, Try.ntmps11
    go_wp2_with fail
    go_loopw [2] (fun i wr => i = .int .i64 0 ∧ wr = w) (fun _ _ => 0)
    case atStart => exact ⟨rfl, rfl⟩
    case round =>
      obtain ⟨rfl, rfl⟩ := hrel
      go_wp2_with fail
      go_end0
      exact ⟨⟨_, rfl⟩, Below.refl _ _, fun _ _ => rfl⟩
  · obtain ⟨⟨e, -⟩ | ⟨g', cap', e, -, -, -, hc⟩⟩ := hr
    · cases e
    cases e
    have H0 : Hid (∀ k (h : k < xs.length), w.cell? ⟨g, k * 4 + 3, none⟩ = some (.int .i64 xs[k].a)) := fun k h => (hc k h).2.2.2
    have HA : Hid (∀ k (h : k < xs.length), xs[k].a ≤ 65536) := ha
    have HH : Hid (w.heap[g]? = some (.cells cur 34 (0, 0))) := hh
    clear hc h1 h7 h8 ha hh
    go_enter Try.func11, Try.ntmps11
    go_wp2_with fail
    go_loopw [2] (fun i wr => ∃ j : Nat, i = .int .i64 j ∧ j ≤ xs.length ∧ (∀ k (h : k < xs.length), j ≤ k → wr.cell? ⟨g, k * 4 + 3, none⟩ = some (.int .i64 xs[k].a)) ∧ (∃ cur', wr.heap[g]? = some (.cells cur' 34 (0, 0))) ∧ (∀ k, k ≠ g → wr.heap[k]? = w.heap[k]?) ∧ Below B w wr) (fun i _ => xs.length - (intOf i).toNat)
    case atStart => exact ⟨0, rfl, Nat.zero_le _, fun k h _ => H0.out k h, ⟨_, HH.out⟩, fun _ _ => rfl, Below.refl _ _⟩
    case round =>
      clear H0 HH
      obtain ⟨j, rfl, hj, hc, ⟨cur', hcur⟩, ho, hB⟩ := hrel
      by_cases hjl : j < xs.length
      · have k3 := hc j hjl (Nat.le_refl _)
        have f3 : wr.frozen? ⟨g, j * 4 + 3, none⟩ = false := by simp [World.frozen?, hcur]
        have hb := HA.out j hjl
        have e1 : decide ((j : Int) < (xs.length : Int)) = true := decide_eq_true (by omega)
        have HR : Hid (∀ u, (∀ k (h : k < xs.length), j + 1 ≤ k → (wr.setCell ⟨g, j * 4 + 3, none⟩ u).cell? ⟨g, k * 4 + 3, none⟩ = some (.int .i64 xs[k].a)) ∧ (∃ cur', (wr.setCell ⟨g, j * 4 + 3, none⟩ u).heap[g]? = some (.cells cur' 34 (0, 0))) ∧ (∀ k, k ≠ g → (wr.setCell ⟨g, j * 4 + 3, none⟩ u).heap[k]? = w.heap[k]?) ∧ Below B w (wr.setCell ⟨g, j * 4 + 3, none⟩ u)) := fun u => by
          refine ⟨fun k h hk => ?_, ⟨cur'.setIfInBounds (j * 4 + 3) u, by simp [World.setCell, Array.getElem?_modify, hcur]⟩, fun k hk => ?_, hB.setCell (p := ⟨g, j * 4 + 3, none⟩) hg u⟩
          · rw [World.cell?_setCell_other _ _ _ _ (by intro e; injection e with _ e2; omega)]
            exact hc k h (by omega)
          · rw [Below.heap_setCell _ _ _ _ hk]
            exact ho k hk
        generalize xs[j] = x at *
        clear hc hcur ho hB
        go_wp2_with fail
        go_roundw
        case rel =>
          obtain ⟨r1, r2, r3, r4⟩ := HR.out (.int .i64 (-9 - (x.a : Int)))
          exact ⟨j + 1, by simp, by omega, r1, r2, r3, r4⟩
        case measure => simp [intOf]; omega
      · have e1 : decide ((j : Int) < (xs.length : Int)) = false := decide_eq_false (by omega)
        have HB : Hid (Below B w wr) := hB
        have HO : Hid (∀ k, k ≠ g → wr.heap[k]? = w.heap[k]?) := ho
        clear hc hcur ho hB
        go_wp2_with fail
        go_end0
        exact ⟨⟨_, rfl⟩, HB.out, fun k hk => HO.out k (fun e => hk (by rw [e]; rfl))⟩
end Go.Proofs.Ytfglbgnjgapehaa.LSo

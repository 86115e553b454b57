/- The walk of LexCovers. -/
import Derived.Test.YtfglbgnjgapehaaLHs
import Derived.Test.YtfglbgnjgapehaaLAw
import Derived.LoopTactic
namespace Go.Proofs.Ytfglbgnjgapehaa.WCov
open Go.RowKit Go.Proofs.Ytfglbgnjgapehaa.UBase Go.Proofs.Ytfglbgnjgapehaa.EPure Go.Proofs.Ytfglbgnjgapehaa.LPure Go.Proofs.Ytfglbgnjgapehaa.LSc Go.Proofs.Ytfglbgnjgapehaa.LIn Go.Proofs.Ytfglbgnjgapehaa.LMu Go.Proofs.Ytfglbgnjgapehaa.LTk Go.Proofs.Ytfglbgnjgapehaa.LLy Go.Proofs.Ytfglbgnjgapehaa.LLz Go.Proofs.Ytfglbgnjgapehaa.LCv Go.Proofs.Ytfglbgnjgapehaa.LHs Go.Proofs.Ytfglbgnjgapehaa.LAw
set_option linter.unusedVariables false

theorem cv_ge {s : ByteArray} {i : Nat} {xs : List Tz} (h : Cv s i xs) : ∀ j (hj : j < xs.length), j ≤ xs[j].a := by
  intro j
  induction j with
  | zero => intro hj; exact Nat.zero_le _
  | succ j ih =>
    intro hj
    have h1 := ih (by omega)
    have h2 := h.up j hj
    omega
theorem cv_len {s : ByteArray} {i : Nat} {xs : List Tz} (h : Cv s i xs) (hi : i ≤ 65536) : xs.length ≤ 65536 := by
  rcases Nat.eq_zero_or_pos xs.length with h0 | h0
  · omega
  · have h1 := cv_ge h (xs.length - 1) (by omega)
    have h2 := h.lt (xs.length - 1) (by omega)
    omega
set_option maxRecDepth 20000 in
set_option maxHeartbeats 3200000 in
theorem walk (s : ByteArray) (hs : s.size ≤ 140737488351232) (w : World) (hg : Gm w) : Calls Try.prog 4 #[.string s] w fun e w' => e = .returned (.bool true) ∧ Below w.heap.size w w' := by
  have hin := lxa_in s
  have hni := @lxa_nil s
  have hcv := @lxa_cv s
  have cL := fun (W : World) (h : Gm W) => lex_c s hs W h (Gm.pos h)
  have c9 : ∀ (x : Int) (W : World), Calls Try.prog 9 #[.int .i64 x] W fun e w' => e = .returned (.int .i64 x) ∧ W = w' := fun x W => (num_c x W).mono fun e w' h => ⟨h.1, h.2.symm⟩
  obtain ⟨⟨xs, fc, fp⟩, hX⟩ : ∃ X, lxa s = X := ⟨_, rfl⟩
  simp only [hX] at *
  clear hX
  go_enter Try.func4, Try.ntmps4
  go_wp2_with fail
  refine (awake_c w hg).mono ?_
  rintro e w1 ⟨rfl, hb1⟩
  go_wp2_with fail
  refine (cL w1 (Gm.below hg hb1)).mono ?_
  rintro e w2 ⟨v, rfl, ho, hb2⟩
  have hB2 : Below w.heap.size w w2 := hb1.trans (hb2.mono hb1.size)
  have hrt := To.rt ho
  clear ho hb1 hb2 cL
  by_cases hf : fc = 0
  · obtain ⟨hC, h0, hs6, -⟩ := hcv hf
    subst hf
    clear hcv hni
    have hr2 := hrt
    obtain ⟨⟨rfl, hx⟩ | ⟨g, cap, rfl, hgl, hc1, hc2, hc⟩⟩ := hr2
    · subst hx
      have hz : s.size = 0 := by
        rcases Nat.eq_zero_or_pos s.size with h | h
        · exact h
        · have := h0 h; simp at this
      have d : decide ((0 : Int) < (s.size : Int)) = false := decide_eq_false (by omega)
      clear hC h0 hrt
      go_wp2_with (first | (go_at_call 9; refine (c9 _ _).mono ?_; rintro e w' ⟨rfl, rfl⟩))
      go_loopw [6] (fun i wr => i = .int .i64 0 ∧ wr = w2) (fun _ _ => 0)
      case atStart => exact ⟨rfl, rfl⟩
      case round =>
        obtain ⟨rfl, rfl⟩ := hrel
        go_wp2_with fail
        go_ret
        exact ⟨rfl, hB2⟩
    · have hxl : xs.length = 0 → s.size = 0 := fun h => by
        rcases Nat.eq_zero_or_pos s.size with h' | h'
        · exact h'
        · have := h0 h'; omega
      have HC : Hid (Cv s s.size xs) := hC
      have HR : Hid (Rt w2 (.slice (some ⟨g, 0, none⟩) xs.length cap) xs) := hrt
      by_cases hz : s.size = 0
      · have d : decide ((0 : Int) < (s.size : Int)) = false := decide_eq_false (by omega)
        have hl0 : xs.length = 0 := by
          rcases Nat.eq_zero_or_pos xs.length with h | h
          · exact h
          · have := hC.lt 0 h; omega
        rw [hl0]
        clear hC h0 hrt hc HC HR hxl hc1 hc2
        go_wp2_with (first | (go_at_call 9; refine (c9 _ _).mono ?_; rintro e w' ⟨rfl, rfl⟩))
        go_loopw [6] (fun i wr => i = .int .i64 0 ∧ wr = w2) (fun _ _ => 0)
        case atStart => exact ⟨rfl, rfl⟩
        case round =>
          obtain ⟨rfl, rfl⟩ := hrel
          go_wp2_with fail
          go_ret
          exact ⟨rfl, hB2⟩
      · have d : decide ((0 : Int) < (s.size : Int)) = true := decide_eq_true (by omega)
        have hlp : 0 < xs.length := h0 (by omega)
        obtain ⟨d0, d1, d2, d3⟩ := hc 0 hlp
        rw [hC.zero hlp] at d3
        simp only [Nat.zero_mul, Nat.zero_add] at d0 d1 d2 d3
        have dl : ((xs.length : Int) == 0) = false := beq_false_of_ne (by omega)
        have hl6 : xs.length ≤ 65536 := cv_len hC hs6
        clear hC h0 hrt hc hxl d0 d1 d2
        go_wp2_with (first | (go_at_call 9; refine (c9 _ _).mono ?_; rintro e w' ⟨rfl, rfl⟩))
        go_loopw [6] (fun i wr => ∃ j : Nat, i = .int .i64 j ∧ j ≤ xs.length ∧ Below w2.heap.size w2 wr) (fun i _ => xs.length - (intOf i).toNat)
        case atStart => exact ⟨0, rfl, Nat.zero_le _, Below.refl _ _⟩
        case round =>
          clear d3
          obtain ⟨j, rfl, hj, hBr⟩ := hrel
          obtain ⟨⟨h, -⟩ | ⟨g', cap', h, -, -, -, hc⟩⟩ := HR.out.below hBr
          · cases h
          cases h
          have HB : Hid (Below w2.heap.size w2 wr) := hBr
          by_cases hjl : j < xs.length
          · obtain ⟨k0, k1, k2, k3⟩ := hc j hjl
            have hlt := HC.out.lt j hjl
            have cb := fun W => begins_c (HC.out.bg j hjl) hlt hs6 W
            have HU : Hid (∀ h : 0 < j, (xs[j - 1]'(by omega)).a < xs[j].a) := fun h => by
              have := HC.out.up (j - 1) (by omega)
              simpa only [show j - 1 + 1 = j by omega] using this
            generalize xs[j] = x at *
            have e1 : decide ((j : Int) < (xs.length : Int)) = true := decide_eq_true (by omega)
            have e2 : decide ((x.a : Int) < 0) = false := decide_eq_false (by omega)
            have e3 : decide ((s.size : Int) ≤ (x.a : Int)) = false := decide_eq_false (by omega)
            rcases Nat.eq_zero_or_pos j with hj0 | hj0
            · subst hj0
              clear hc HU
              simp only [Nat.zero_mul, Nat.zero_add] at k0 k1 k2 k3
              go_wp2_with fail
              refine (cb _).mono ?_
              rintro e w3 ⟨rfl, hb3⟩
              go_wp2_with fail
              go_roundw
              case rel => exact ⟨1, rfl, by omega, HB.out.trans (hb3.mono HB.out.size)⟩
              case measure => simp [intOf]; omega
            · obtain ⟨m, rfl⟩ : ∃ m, j = m + 1 := ⟨j - 1, by omega⟩
              obtain ⟨-, -, -, p3⟩ := hc m (by omega)
              have hU := HU.out (by omega)
              simp only [Nat.add_sub_cancel] at hU
              generalize xs[m] = y at *
              have e4 : decide ((x.a : Int) ≤ (y.a : Int)) = false := decide_eq_false (by omega)
              have e5 : decide ((0 : Int) < ((m + 1 : Nat) : Int)) = true := decide_eq_true (by omega)
              have e6 : ((m + 1 : Nat) : Int) - 1 = (m : Int) := by omega
              clear hc HU
              go_wp2_with fail
              refine (cb _).mono ?_
              rintro e w3 ⟨rfl, hb3⟩
              go_wp2_with fail
              go_roundw
              case rel => exact ⟨m + 1 + 1, by simp, by omega, HB.out.trans (hb3.mono HB.out.size)⟩
              case measure => simp [intOf]; omega
          · have e1 : decide ((j : Int) < (xs.length : Int)) = false := decide_eq_false (by omega)
            clear hc
            go_wp2_with fail
            go_ret
            exact ⟨rfl, hB2.trans (HB.out.mono hB2.size)⟩
  · have hx := hni hf
    subst hx
    have d : ((fc : Int) != 0) = true := by simp; omega
    have d2 : decide ((0 : Int) ≤ (fp : Int)) = true := decide_eq_true (by omega)
    have d3 : decide ((fp : Int) ≤ (s.size : Int)) = true := decide_eq_true (by omega)
    clear hni hcv
    obtain ⟨⟨rfl, -⟩ | ⟨g, cap, rfl, -⟩⟩ := hrt
    · go_wp2_with (first | (go_at_call 9; refine (c9 _ _).mono ?_; rintro e w' ⟨rfl, rfl⟩))
      go_ret
      exact ⟨rfl, hB2⟩
    · go_wp2_with (first | (go_at_call 9; refine (c9 _ _).mono ?_; rintro e w' ⟨rfl, rfl⟩))
      go_ret
      exact ⟨rfl, hB2⟩
end Go.Proofs.Ytfglbgnjgapehaa.WCov

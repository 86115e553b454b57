/- Rows of numbers compared: contract of SameInts. -/
import Derived.Test.YtnpamcgbnimdkaaDFree
namespace Go.Proofs.Ytnpamcgbnimdkaa.DInts
open Go.RowKit Go.Proofs.Ytnpamcgbnimdkaa.TBase Go.Proofs.Ytnpamcgbnimdkaa.DBase Go.Proofs.Ytnpamcgbnimdkaa.DNeed Go.Proofs.Ytnpamcgbnimdkaa.DKids
set_option linter.unusedVariables false

theorem below_drewN {w wr : World} {k n : Nat} (h : Below k w wr) : Below k w (wr.drewN n) := ⟨h.os, h.tape, h.output, h.size, h.block⟩
theorem take_same {L M : List Int} {k : Nat} (h1 : k < L.length) (h2 : k < M.length) (h : L.take k = M.take k) (he : L[k] = M[k]) : L.take (k + 1) = M.take (k + 1) := by
  rw [List.take_succ_eq_append_getElem h1, List.take_succ_eq_append_getElem h2, h, he]
set_option maxRecDepth 20000 in
set_option maxHeartbeats 800000 in
theorem sameI_c {w : World} {v u : Value} {L M : List Int} (hv : Hs w v L) (hu : Hs w u M) :
    Calls Try.prog 24 #[v, u] w fun e w' => e = .returned (.bool (decide (L = M))) ∧ Below w.heap.size w w' := by
  obtain ⟨a, cap, rfl, hl, hm, hL⟩ := hv
  obtain ⟨a2, cap2, rfl, hl2, hm2, hM⟩ := hu
  by_cases hlen : L.length = M.length
  · have HE : Hid (L.length = M.length) := hlen
    rw [← hlen] at hl2 ⊢
    clear hlen
    go_enter Try.func24, Try.ntmps24
    go_wp2_with fail
    go_loopw [5] (fun i wr => ∃ k : Nat, i = .int .i64 k ∧ k ≤ L.length ∧ L.take k = M.take k ∧ Below w.heap.size w wr) (fun i _ => L.length - (intOf i).toNat)
    case atStart => exact ⟨0, rfl, Nat.zero_le _, by simp, Below.refl _ _⟩
    case round =>
      obtain ⟨k, rfl, hk, htk, hb⟩ := hrel
      by_cases hlt : k < L.length
      · have hlt2 : k < M.length := by rw [← HE.out]; exact hlt
        rcases hL with rfl | ⟨g, o, rfl, hcl⟩
        · simp at hlt
        · rcases hM with rfl | ⟨g2, o2, rfl, hcm⟩
          · simp at hlt2
          · have x1 := below_cell (hcl k hlt) hb
            have x2 := below_cell (hcm k hlt2) hb
            have HT := take_same hlt hlt2 htk
            have HN : Hid (L[k] ≠ M[k] → decide (L = M) = false) := fun h => decide_eq_false (fun e => h (by subst e; rfl))
            have HT2 : Hid (L[k] = M[k] → L.take (k + 1) = M.take (k + 1)) := HT
            generalize L[k] = X at *
            generalize M[k] = Y at *
            clear hcl hcm HT htk hlt2
            by_cases hxy : X = Y
            · subst hxy
              have HT3 : Hid (L.take (k + 1) = M.take (k + 1)) := HT2.out rfl
              clear HN HT2
              go_wp2_with fail
              go_quiet (fail)
              go_wp2_with fail
              go_roundw
              case rel => exact ⟨k + 1, by go_num, by omega, HT3.out, below_drewN hb⟩
              case measure => simp only [intOf]; omega
            · have e : (X == Y) = false := by simp [hxy]
              have HN2 : Hid (decide (L = M) = false) := HN.out hxy
              clear HN HT2
              go_wp2_with fail
              go_quiet (fail)
              go_wp2_with fail
              go_ret
              exact ⟨by rw [HN2.out]; rfl, below_drewN hb⟩
      · obtain rfl : k = L.length := by omega
        have hnlt : decide ((L.length : Int) < (L.length : Int)) = false := by simp
        have HT : Hid (L = M) := by
          rw [List.take_length, HE.out, List.take_length] at htk
          exact htk
        clear htk
        go_wp2_with fail
        go_ret
        exact ⟨by rw [decide_eq_true HT.out]; rfl, hb⟩
  · have hd : ((L.length : Int) == (M.length : Int)) = false := by simp; omega
    have HN : Hid (decide (L = M) = false) := decide_eq_false (fun e => hlen (by rw [e]))
    go_enter Try.func24, Try.ntmps24
    go_wp2_with fail
    go_ret
    exact ⟨by rw [HN.out]; rfl, Below.refl _ _⟩
end Go.Proofs.Ytnpamcgbnimdkaa.DInts

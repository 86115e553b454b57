import Derived.Test.YthjbknncbhkinaaGreatDoorPS07
import Derived.Test.YthjbknncbhkinaaGreatDoorPS35
set_option linter.unusedVariables false
namespace Go.Proofs.YthjbknncbhkinaaGreatDoor.GWf
open Go.RowKit Base VPure
theorem ft_fm {c : C} {d q : Int} (h : Fault.ft c d q = 0) : Fault.fm c = true := by
 unfold Fault.ft at h
 by_cases h1 : 16384 < q
 ·rw [if_pos h1] at h; cases h
 rw [if_neg h1] at h
 by_cases h2 : 24 < d
 ·rw [if_pos h2] at h; cases h
 rw [if_neg h2] at h
 by_cases h3 : c.k < 1 \/ 6 < c.k
 ·rw [if_pos h3] at h; cases h
 rw [if_neg h3] at h
 by_cases h4 : Fault.fm c = true
 ·exact h4
 ·rw [if_neg h4] at h; cases h
theorem ms_fm : ∀ (r : List (Nat × C)) (D k : Nat), (Measure.ms D k r).2.2 = 0 -> ∀ p ∈ r, Fault.fm p.2 = true
 | [], _, _, _, p, hp => absurd hp (by simp)
 | (d, c) :: r, D, k, h, p, hp => by
  rw [Measure.ms] at h
  by_cases hf : Fault.ft c d (k + 1 : Nat) = 0
  ·rw [if_pos hf] at h
   rcases List.mem_cons.1 hp with rfl | hp
   ·exact ft_fm hf
   ·exact ms_fm r _ _ h p hp
  ·rw [if_neg hf] at h; exact (hf h).elim
theorem fm_six {c : C} (h : Fault.fm c = true) (h6 : c.k = 6) : c.n.length <= c.l.length := by
 unfold Fault.fm Names.nmb at h
 simp only [Bool.and_eq_true, Bool.or_eq_true, Bool.not_eq_true', decide_eq_false_iff_not, decide_eq_true_eq] at h
 rcases h.2 with h | h
 ·exact (h h6).elim
 ·omega
theorem wfL_of : ∀ (l : List C) (d : Nat), (∀ p ∈ Walk.plL d l, Fault.fm p.2 = true) -> wfL l
 | [], _, _ => by rw [wfL]; trivial
 | .mk k b i s n l :: t, d, h => by
  rw [Walk.plL] at h
  rw [wfL]
  refine ⟨⟨fun h6 => fm_six (h _ (List.mem_append_left _ (List.mem_cons_self ..))) h6, wfL_of l (d + 1) fun p hp => h p (List.mem_append_left _ (List.mem_cons_of_mem _ hp))⟩, wfL_of t d fun p hp => h p (List.mem_append_right _ hp)⟩
theorem code_wf {c : C} (h : (Measure.ms 0 0 (Walk.pl 1 c)).2.2 = 0) : wf c := by
 have hm := ms_fm _ _ _ h
 obtain ⟨k, b, i, s, n, l⟩ := c
 rw [Walk.pl] at hm
 exact ⟨fun h6 => fm_six (hm _ (List.mem_cons_self ..)) h6, wfL_of l _ fun p hp => hm p (List.mem_cons_of_mem _ hp)⟩
end Go.Proofs.YthjbknncbhkinaaGreatDoor.GWf

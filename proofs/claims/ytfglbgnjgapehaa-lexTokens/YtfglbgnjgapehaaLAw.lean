/- Templates: what every program answers that is one. -/
import Derived.Test.YtfglbgnjgapehaaLLz
namespace Go.Proofs.Ytfglbgnjgapehaa.LAw
open Go.RowKit Go.Proofs.Ytfglbgnjgapehaa.UBase Go.Proofs.Ytfglbgnjgapehaa.EPure Go.Proofs.Ytfglbgnjgapehaa.LPure Go.Proofs.Ytfglbgnjgapehaa.LSc Go.Proofs.Ytfglbgnjgapehaa.LIn Go.Proofs.Ytfglbgnjgapehaa.LMu Go.Proofs.Ytfglbgnjgapehaa.LTk Go.Proofs.Ytfglbgnjgapehaa.LLy Go.Proofs.Ytfglbgnjgapehaa.LLz
set_option linter.unusedVariables false

theorem num_c (x : Int) (w : World) : Calls Try.prog 9 #[.int .i64 x] w fun e w' => e = .returned (.int .i64 x) ∧ w' = w := by
  go_enter Try.func9, Try.ntmps9
  go_wp2_with fail
  go_ret
  exact ⟨rfl, rfl⟩
theorem Gm.pos {w : World} (h : Gm w) : 0 < w.heap.size := by
  obtain ⟨m, hm⟩ := h
  cases e : w.heap[0]? with
  | none => simp [World.cell?, e] at hm
  | some o => exact (Array.getElem?_eq_some_iff.1 e).1
theorem Gm.below {w w' : World} (h : Gm w) (hB : Below w.heap.size w w') : Gm w' := gm_below h (Gm.pos h) hB
set_option maxRecDepth 20000 in
set_option maxHeartbeats 1600000 in
theorem awake_c (w : World) (hg : Gm w) : Calls Try.prog 12 #[] w fun e w' => e = .returned (.bool true) ∧ Below w.heap.size w w' := by
  have c1 := lex_c ⟨#[97, 123, 123, 32, 98, 32, 125, 125, 60, 98, 114, 47, 62]⟩ (by decide) w hg (Gm.pos hg)
  have c2 := fun (W : World) (h : Gm W) => lex_c ⟨#[60, 32, 112, 62]⟩ (by decide) W h (Gm.pos h)
  rw [aw1.1] at c1
  simp only [aw2] at c2
  have hm := aw1.2
  have c9 := fun (x : Int) (W : World) => num_c x W
  generalize (lxa ⟨#[97, 123, 123, 32, 98, 32, 125, 125, 60, 98, 114, 47, 62]⟩).1 = xs at *
  go_enter Try.func12, Try.ntmps12
  go_wp2_with fail
  refine c1.mono ?_
  rintro e w1 ⟨v, rfl, ho, hb1⟩
  have hxl : xs.length = 4 := by have := congrArg List.length hm; simpa using this
  have hx1 : xs[1].k = 2 ∧ xs[1].n = ⟨#[]⟩ ∧ xs[1].t = ⟨#[32, 98, 32]⟩ ∧ xs[1].a = 1 := by
    have := congrArg (fun l => l[1]?) hm
    simp only [List.getElem?_map, List.getElem?_eq_getElem (show 1 < xs.length by omega)] at this
    simpa using this
  have hrt := (To.rt ho)
  clear hm ho c1
  go_wp2_with fail
  refine (c2 w1 (Gm.below hg hb1)).mono ?_
  rintro e w2 ⟨v2, rfl, -, hb2⟩
  have hr2 := hrt.below hb2
  obtain ⟨⟨-, hx⟩ | ⟨g, cap, rfl, hgl, hc1, hc2, hc⟩⟩ := hr2
  · rw [hx] at hxl; simp at hxl
  obtain ⟨d0, d1, d2, d3⟩ := hc 1 (by omega)
  rw [hx1.1] at d0
  rw [hx1.2.1] at d1
  rw [hx1.2.2.1] at d2
  rw [hx1.2.2.2] at d3
  rw [hxl]
  simp only [Nat.one_mul, Nat.reduceAdd] at d0 d1 d2 d3
  clear hc hrt c2 hx1
  go_wp2_with (first | (go_at_call 9; refine (c9 _ _).mono ?_; rintro e w' ⟨rfl, rfl⟩))
  go_ret
  refine ⟨?_, hb1.trans (hb2.mono hb1.size)⟩
  rfl
end Go.Proofs.Ytfglbgnjgapehaa.LAw

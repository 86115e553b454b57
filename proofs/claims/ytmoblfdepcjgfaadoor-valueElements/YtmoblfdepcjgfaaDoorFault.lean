/- What may not be of a value alone: contract of fault. -/
import Derived.Test.YtmoblfdepcjgfaaDoorNames
namespace Go.Proofs.YtmoblfdepcjgfaaDoor.Fault
open Go.RowKit Go.Proofs.YtmoblfdepcjgfaaDoor.Base Go.Proofs.YtmoblfdepcjgfaaDoor.Pure Go.Proofs.YtmoblfdepcjgfaaDoor.Names
set_option linter.unusedVariables false

/-- The form of a value alone, its elements left aside. -/
def fm (c : C) : Bool := pu c.k c.b c.i c.s c.n.length c.l.length && tg c.s && (!decide (c.k = 6) || nmb c.n c.l.length)
def ft (c : C) (d q : Int) : Int := if 16384 < q then 503 else if 24 < d then 502 else if c.k < 1 ∨ 6 < c.k then 500 else if fm c = true then 0 else 501
set_option maxRecDepth 20000 in
set_option maxHeartbeats 1600000 in
theorem fault_c {m : Nat} {v : Value} {c : C} {w : World} (h : In false All w m v c) (d q : Int) :
    Calls Tryd.prog 55 #[v, .int .i64 d, .int .i64 q] w fun r w' => r = .returned (.int .i64 (ft c d q)) ∧ Below w.heap.size w w' := by
  have hin := h
  obtain ⟨m', nv, lv, -, rfl, -, -, hs, hn, hl⟩ := h.shape
  obtain ⟨a', cap', rfl, -⟩ := hl.out
  obtain ⟨a, cap, rfl, -⟩ := hn.out
  clear h hn hl
  obtain ⟨k, b, i, s, n, l⟩ := c
  simp only [C.k, C.b, C.i, C.s, C.n, C.l] at *
  obtain ⟨W0, hW0⟩ : ∃ W0, w.alloc (.cells #[.int .i64 k, .bool b, .int .i64 i, .string s, .slice a n.length cap, .slice a' l.length cap'] 25) = W0 := ⟨_, rfl⟩
  have hb0 : Below w.heap.size w W0 := by rw [← hW0]; exact (Below.refl _ w).alloc (Nat.le_refl _) _
  have hx0 : W0.heap[w.heap.size]? = some (.cells #[.int .i64 k, .bool b, .int .i64 i, .string s, .slice a n.length cap, .slice a' l.length cap'] 25) := by rw [← hW0, heap_alloc_new]
  have hs0 : W0.heap.size = w.heap.size + 1 := by rw [← hW0]; simp
  obtain ⟨d0, d1, d2, d3, d4, d5⟩ := six_box hx0
  have c63 := pure_c k b i s a a' n.length l.length cap cap' W0
  have hin0 := hin.below hb0
  by_cases h1 : 16384 < q
  · have e : ft (.mk k b i s n l) d q = 503 := by simp [ft, h1]
    rw [e]
    clear e hin hin0 c63 hx0
    go_enter Tryd.func55, Tryd.ntmps55
    go_wp2_with fail
    go_ret
    exact ⟨rfl, hb0⟩
  have h1' : decide (16384 < q) = false := decide_eq_false h1
  by_cases h2 : 24 < d
  · have e : ft (.mk k b i s n l) d q = 502 := by simp [ft, h1, h2]
    rw [e]
    clear e hin hin0 c63 hx0
    go_enter Tryd.func55, Tryd.ntmps55
    go_wp2_with fail
    go_ret
    exact ⟨rfl, hb0⟩
  have h2' : decide (24 < d) = false := decide_eq_false h2
  by_cases h3 : k < 1
  · have e : ft (.mk k b i s n l) d q = 500 := by simp [ft, h1, h2, C.k, h3]
    rw [e]
    clear e hin hin0 c63 hx0
    go_enter Tryd.func55, Tryd.ntmps55
    go_wp2_with fail
    go_ret
    exact ⟨rfl, hb0⟩
  have h3' : decide (k < 1) = false := decide_eq_false h3
  by_cases h4 : 6 < k
  · have e : ft (.mk k b i s n l) d q = 500 := by simp [ft, h1, h2, C.k, h4]
    rw [e]
    clear e hin hin0 c63 hx0
    go_enter Tryd.func55, Tryd.ntmps55
    go_wp2_with fail
    go_ret
    exact ⟨rfl, hb0⟩
  have h4' : decide (6 < k) = false := decide_eq_false h4
  have e0 : ft (.mk k b i s n l) d q = if (pu k b i s n.length l.length && tg s && (!decide (k = 6) || nmb n l.length)) = true then 0 else 501 := by
    have h34 : ¬ (k < 1 ∨ 6 < k) := by omega
    unfold ft
    rw [if_neg h1, if_neg h2]
    exact if_neg h34
  rw [e0]
  clear e0 h1 h2 h3 h4
  generalize pu k b i s n.length l.length = P at *
  have c64 := fun w => tmb_c s hs w
  generalize tg s = T at *
  have c65 : ∀ w, In false All w m (.agg #[.int .i64 k, .bool b, .int .i64 i, .string s, .slice a n.length cap, .slice a' l.length cap']) (.mk k b i s n l) →
      Calls Tryd.prog 65 #[.agg #[.int .i64 k, .bool b, .int .i64 i, .string s, .slice a n.length cap, .slice a' l.length cap']] w fun r w' => r = .returned (.bool (nmb n l.length)) ∧ Below w.heap.size w w' := fun w h => names_c h
  generalize nmb n l.length = N at *
  obtain ⟨X, hX⟩ : ∃ X : Int, (if (P && T && (!decide (k = 6) || N)) = true then 0 else 501) = X := ⟨_, rfl⟩
  rw [hX]
  have HX : Hid ((if (P && T && (!decide (k = 6) || N)) = true then 0 else 501) = X) := hX
  clear hX
  cases P with
  | false =>
    go_enter Tryd.func55, Tryd.ntmps55
    go_wp2_with (first | (go_at_call 63; refine c63.mono ?_; rintro e w1 ⟨rfl, b1⟩))
    go_ret
    exact ⟨by rw [← HX.out]; rfl, nx hb0 b1⟩
  | true =>
    go_enter Tryd.func55, Tryd.ntmps55
    go_wp2_with fail
    refine c63.mono ?_
    rintro e w1 ⟨rfl, b1⟩
    have hx1 := (b1.block w.heap.size (by omega)).trans hx0
    obtain ⟨y0, y1, y2, y3, y4, y5⟩ := six_box hx1
    have c641 := c64 w1
    cases T with
    | false =>
      go_wp2_with (first | (go_at_call 64; refine c641.mono ?_; rintro e w2 ⟨rfl, b2⟩))
      go_ret
      exact ⟨by rw [← HX.out]; rfl, nx (nx hb0 b1) b2⟩
    | true =>
      go_wp2_with fail
      refine c641.mono ?_
      rintro e w2 ⟨rfl, b2⟩
      have hx2 := (b2.block w.heap.size (by have := b1.size; omega)).trans hx1
      obtain ⟨z0, z1, z2, z3, z4, z5⟩ := six_box hx2
      by_cases h6 : k = 6
      · subst h6
        have c652 := c65 w2 ((hin0.below b1).below b2)
        cases N with
        | true =>
          go_wp2_with (first | (go_at_call 65; refine c652.mono ?_; rintro e w3 ⟨rfl, b3⟩))
          go_ret
          exact ⟨by rw [← HX.out]; rfl, nx (nx (nx hb0 b1) b2) b3⟩
        | false =>
          go_wp2_with (first | (go_at_call 65; refine c652.mono ?_; rintro e w3 ⟨rfl, b3⟩))
          go_ret
          exact ⟨by rw [← HX.out]; rfl, nx (nx (nx hb0 b1) b2) b3⟩
      · have h6' : (k == 6) = false := by simp [h6]
        go_wp2_with fail
        go_ret
        exact ⟨by rw [← HX.out]; simp [h6], nx (nx hb0 b1) b2⟩
end Go.Proofs.YtmoblfdepcjgfaaDoor.Fault

/- What a tree alone may be: contracts of mayBe and fault. -/
import Derived.Test.YtnpamcgbnimdkaaTAttrs
namespace Go.Proofs.Ytnpamcgbnimdkaa.TMay
open Go.RowKit Go.Proofs.Ytnpamcgbnimdkaa.TBase Go.Proofs.Ytnpamcgbnimdkaa.TPure Go.Proofs.Ytnpamcgbnimdkaa.TAttrs
set_option linter.unusedVariables false

theorem bx {w : World} {o : Obj} : Below w.heap.size w (w.alloc o) := (Below.refl _ _).alloc (Nat.le_refl _) _
set_option maxHeartbeats 800000 in
theorem mayBe_c (m : Nat) (v : Value) (c : T) (w : World) (h : In false All w m v c) :
    Calls Try.prog 95 #[v] w fun e w' => e = .returned (.bool (alone c)) ∧ Below w.heap.size w w' := by
  obtain ⟨m', nv, lv, -, rfl, hg, hs, hn, hl⟩ := h.shape
  have hn0 := hn
  have hl0 := hl
  obtain ⟨a1, c1, rfl, hk1, hk2, hk3, -⟩ := hn
  obtain ⟨a2, c2, rfl, hj1, hj2, hj3, -⟩ := hl
  have c66 := short_c c.s (by omega) (w.alloc (.cells #[.string c.g, .string c.s, .slice a1 c.n.length c1, .slice a2 c.l.length c2] 28))
  have c67 := UWord.tag_c c.g (by omega) (w.alloc (.cells #[.string c.g, .string c.s, .slice a1 c.n.length c1, .slice a2 c.l.length c2] 28))
  have c68 := attrs_c _ c.n _ (hn0.below (bx (o := .cells #[.string c.g, .string c.s, .slice a1 c.n.length c1, .slice a2 c.l.length c2] 28)))
  unfold alone
  clear hn0 hl0 h
  generalize c.n.length = n1 at *
  generalize c.l.length = n2 at *
  generalize UBase.word c.g 45 = b1 at *
  generalize attrsOK c.n = b2 at *
  generalize tg c.s = b3 at *
  generalize c.g = g at *
  generalize c.s = s at *
  have b0 := bx (w := w) (o := .cells #[.string g, .string s, .slice a1 n1 c1, .slice a2 n2 c2] 28)
  cases hge : g.toList.isEmpty with
  | true =>
    rw [if_pos rfl]
    by_cases h1 : n1 = 0
    · subst h1
      by_cases h2 : n2 = 0
      · subst h2
        go_enter Try.func95, Try.ntmps95
        go_wp2_with (first | (go_at_call 59; refine c66.mono ?_; rintro e w1 ⟨rfl, b1⟩))
        go_ret
        exact ⟨by simp, nx b0 b1⟩
      · have h2' : ((n2 : Int) == 0) = false := by simp; omega
        go_enter Try.func95, Try.ntmps95
        go_wp2_with fail
        go_ret
        exact ⟨by simp [h2], b0⟩
    · have h1' : ((n1 : Int) == 0) = false := by simp; omega
      go_enter Try.func95, Try.ntmps95
      go_wp2_with fail
      go_ret
      exact ⟨by simp [h1], b0⟩
  | false =>
    rw [if_neg (by simp)]
    cases b1 with
    | false =>
      go_enter Try.func95, Try.ntmps95
      go_wp2_with (first | (go_at_call 58; refine c67.mono ?_; rintro e w1 ⟨rfl, rfl⟩))
      go_ret
      exact ⟨by simp, b0⟩
    | true =>
      cases hse : s.toList.isEmpty with
      | false =>
        go_enter Try.func95, Try.ntmps95
        go_wp2_with (first | (go_at_call 58; refine c67.mono ?_; rintro e w1 ⟨rfl, rfl⟩))
        go_ret
        exact ⟨by simp, b0⟩
      | true =>
        go_enter Try.func95, Try.ntmps95
        go_wp2_with (first | (go_at_call 58; refine c67.mono ?_; rintro e w1 ⟨rfl, rfl⟩) | (go_at_call 97; refine c68.mono ?_; rintro e w2 ⟨rfl, b2⟩))
        go_ret
        exact ⟨by simp, nx b0 b2⟩
/-- The fault of a tree that is number k and lies at depth d. -/
def flt (c : T) (d k : Nat) : Nat := if 4096 < k then 702 else if 64 < d then 701 else if alone c = true then 0 else 700
theorem fault_c (m : Nat) (v : Value) (c : T) (d k : Nat) (hd : d ≤ 65) (hk : k ≤ 4097) (w : World) (h : In false All w m v c) :
    Calls Try.prog 92 #[v, .int .i64 d, .int .i64 k] w fun e w' => e = .returned (.int .i64 (flt c d k : Nat)) ∧ Below w.heap.size w w' := by
  obtain ⟨v0, v1, v2, v3, rfl, -⟩ := h.four
  have c60 := mayBe_c m _ c _ (h.below (bx (o := .cells #[v0, v1, v2, v3] 28)))
  unfold flt
  generalize alone c = b at *
  clear h
  by_cases h1 : 4096 < k
  · have h1' : decide ((4096 : Int) < (k : Int)) = true := by simp; omega
    rw [if_pos h1]
    go_enter Try.func92, Try.ntmps92
    go_wp2_with fail
    go_ret
    exact ⟨rfl, bx⟩
  · have h1' : decide ((4096 : Int) < (k : Int)) = false := by simp; omega
    rw [if_neg h1]
    by_cases h2 : 64 < d
    · have h2' : decide ((64 : Int) < (d : Int)) = true := by simp; omega
      rw [if_pos h2]
      go_enter Try.func92, Try.ntmps92
      go_wp2_with fail
      go_ret
      exact ⟨rfl, bx⟩
    · have h2' : decide ((64 : Int) < (d : Int)) = false := by simp; omega
      rw [if_neg h2]
      cases b with
      | true =>
        go_enter Try.func92, Try.ntmps92
        go_wp2_with (first | (go_at_call 95; refine c60.mono ?_; rintro e w1 ⟨rfl, b1⟩))
        go_ret
        exact ⟨rfl, nx bx b1⟩
      | false =>
        go_enter Try.func92, Try.ntmps92
        go_wp2_with (first | (go_at_call 95; refine c60.mono ?_; rintro e w1 ⟨rfl, b1⟩))
        go_ret
        exact ⟨rfl, nx bx b1⟩
end Go.Proofs.Ytnpamcgbnimdkaa.TMay

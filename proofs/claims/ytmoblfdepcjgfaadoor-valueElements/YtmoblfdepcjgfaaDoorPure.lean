/- What of a value alone may be: contracts of pure, textMayBe and the document's Good. -/
import Derived.Test.YtmoblfdepcjgfaaDoorRow
import Derived.Test.YtmoblfdepcjgfaaDoorUOwn
namespace Go.Proofs.YtmoblfdepcjgfaaDoor.Pure
open Go.RowKit Go.Proofs.YtmoblfdepcjgfaaDoor.Base Go.Proofs.YtmoblfdepcjgfaaDoor.UBase Go.Proofs.YtmoblfdepcjgfaaDoor.UValid Go.Proofs.YtmoblfdepcjgfaaDoor.UOwn
set_option linter.unusedVariables false

/-- A text that may be. -/
def tg (s : ByteArray) : Bool := decide (s.size ≤ 4096) && (verr s == 0)
theorem iter_below (w : World) (s : ByteArray) (p : Nat) : Below w.heap.size w (w.iter s p) := (Below.refl _ w).alloc (Nat.le_refl _) _
theorem verr_cases (s : ByteArray) : verr s = 0 ∨ verr s = 300 := by
  cases h : bad s 0 with
  | none => exact .inl (verr_none h).2
  | some i => exact .inr (verr_some h).2
theorem tmb_c (s : ByteArray) (hs : s.size ≤ 140737488351232) (w : World) :
    Calls Tryd.prog 64 #[.string s] w fun r w' => r = .returned (.bool (tg s)) ∧ Below w.heap.size w w' := by
  have c71 := valid_c s (by omega) w
  by_cases h : s.size ≤ 4096
  · have e : tg s = (verr s == 0) := by simp [tg, h]
    rw [e]
    have hv := verr_cases s
    generalize verr s = x at *
    generalize vat s = y at *
    have h' : decide ((4096 : Int) < (s.size : Int)) = false := decide_eq_false (by omega)
    clear e
    rcases hv with rfl | rfl
    · go_enter Tryd.func64, Tryd.ntmps64
      go_wp2_with (first | (go_at_call 71; refine c71.mono ?_; rintro e w' ⟨rfl, p, rfl⟩))
      go_ret
      exact ⟨rfl, iter_below _ _ _⟩
    · go_enter Tryd.func64, Tryd.ntmps64
      go_wp2_with (first | (go_at_call 71; refine c71.mono ?_; rintro e w' ⟨rfl, p, rfl⟩))
      go_ret
      exact ⟨rfl, iter_below _ _ _⟩
  · have e : tg s = false := by simp [tg, h]
    rw [e]
    have h' : decide ((4096 : Int) < (s.size : Int)) = true := decide_eq_true (by omega)
    clear c71 e
    go_enter Tryd.func64, Tryd.ntmps64
    go_wp2_with fail
    go_ret
    exact ⟨rfl, Below.refl _ _⟩
theorem good_c (s : ByteArray) (hs : s.size ≤ 140737488351232) (w : World) :
    Calls Tryd.prog 66 #[.string s] w fun r w' => r = .returned (.bool (tg s)) ∧ w' = w := by
  have c72 := rvalid_c s (by omega) w
  by_cases h : s.size ≤ 4096
  · have e : tg s = (verr s == 0) := by simp [tg, h]
    rw [e]
    have hv := verr_cases s
    generalize verr s = x at *
    generalize vat s = y at *
    have h' : decide ((4096 : Int) < (s.size : Int)) = false := decide_eq_false (by omega)
    clear e
    rcases hv with rfl | rfl
    · go_enter Tryd.func66, Tryd.ntmps66
      go_wp2_with (first | (go_at_call 72; refine c72.mono ?_; rintro e w' ⟨rfl, rfl⟩))
      go_ret
      exact ⟨rfl, rfl⟩
    · go_enter Tryd.func66, Tryd.ntmps66
      go_wp2_with (first | (go_at_call 72; refine c72.mono ?_; rintro e w' ⟨rfl, rfl⟩))
      go_ret
      exact ⟨rfl, rfl⟩
  · have e : tg s = false := by simp [tg, h]
    rw [e]
    have h' : decide ((4096 : Int) < (s.size : Int)) = true := decide_eq_true (by omega)
    clear c72 e
    go_enter Tryd.func66, Tryd.ntmps66
    go_wp2_with fail
    go_ret
    exact ⟨rfl, rfl⟩
/-- The fields that the kind does not use are zero. -/
def pu (k : Int) (b : Bool) (i : Int) (s : ByteArray) (n1 n2 : Nat) : Bool :=
  (decide (k = 2) || !b) && (decide (k = 3) || decide (i = 0)) && (decide (k = 4) || s.toList.isEmpty) && (decide (k = 5 ∨ k = 6) || decide (n2 = 0)) && (decide (k = 6) || decide (n1 = 0))
set_option maxHeartbeats 3200000 in
theorem pure_c (k : Int) (b : Bool) (i : Int) (s : ByteArray) (a1 a2 : Option Addr) (n1 n2 c1 c2 : Nat) (w : World) :
    Calls Tryd.prog 63 #[.agg #[.int .i64 k, .bool b, .int .i64 i, .string s, .slice a1 n1 c1, .slice a2 n2 c2]] w fun r w' => r = .returned (.bool (pu k b i s n1 n2)) ∧ Below w.heap.size w w' := by
  by_cases h2 : k = 2
  · subst h2
    by_cases hi : ¬ i = 0
    · have e : pu 2 b i s n1 n2 = false := by simp [pu, hi]
      rw [e]
      have hi' : (i == 0) = false := by simp [hi]
      clear e
      go_enter Tryd.func63, Tryd.ntmps63
      go_wp2_with fail
      go_ret
      exact ⟨rfl, (Below.refl _ w).alloc (Nat.le_refl _) _⟩
    have hi0 : i = 0 := Decidable.of_not_not hi
    subst hi0
    clear hi
    cases hs : s.toList.isEmpty with
    | false =>
      have e : pu 2 b 0 s n1 n2 = false := by simp only [pu, hs]; simp
      rw [e]
      clear e
      go_enter Tryd.func63, Tryd.ntmps63
      go_wp2_with fail
      go_ret
      exact ⟨rfl, (Below.refl _ w).alloc (Nat.le_refl _) _⟩
    | true =>
      by_cases hl : ¬ n2 = 0
      · have e : pu 2 b 0 s n1 n2 = false := by simp only [pu, hs]; simp [hl]
        rw [e]
        have hl' : ((n2 : Int) == 0) = false := by simp [hl]
        clear e
        go_enter Tryd.func63, Tryd.ntmps63
        go_wp2_with fail
        go_ret
        exact ⟨rfl, (Below.refl _ w).alloc (Nat.le_refl _) _⟩
      have hl0 : n2 = 0 := Decidable.of_not_not hl
      subst hl0
      clear hl
      by_cases hn : ¬ n1 = 0
      · have e : pu 2 b 0 s n1 0 = false := by simp only [pu, hs]; simp [hn]
        rw [e]
        have hn' : ((n1 : Int) == 0) = false := by simp [hn]
        clear e
        go_enter Tryd.func63, Tryd.ntmps63
        go_wp2_with fail
        go_ret
        exact ⟨rfl, (Below.refl _ w).alloc (Nat.le_refl _) _⟩
      have hn0 : n1 = 0 := Decidable.of_not_not hn
      subst hn0
      clear hn
      have e : pu 2 b 0 s 0 0 = true := by simp only [pu, hs]; simp
      rw [e]
      clear e
      go_enter Tryd.func63, Tryd.ntmps63
      go_wp2_with fail
      go_ret
      exact ⟨rfl, (Below.refl _ w).alloc (Nat.le_refl _) _⟩
  by_cases h3 : k = 3
  · subst h3
    cases b with
    | true =>
      have e : pu 3 true i s n1 n2 = false := by simp [pu]
      rw [e]
      clear e
      go_enter Tryd.func63, Tryd.ntmps63
      go_wp2_with fail
      go_ret
      exact ⟨rfl, (Below.refl _ w).alloc (Nat.le_refl _) _⟩
    | false =>
      cases hs : s.toList.isEmpty with
      | false =>
        have e : pu 3 false i s n1 n2 = false := by simp only [pu, hs]; simp
        rw [e]
        clear e
        go_enter Tryd.func63, Tryd.ntmps63
        go_wp2_with fail
        go_ret
        exact ⟨rfl, (Below.refl _ w).alloc (Nat.le_refl _) _⟩
      | true =>
        by_cases hl : ¬ n2 = 0
        · have e : pu 3 false i s n1 n2 = false := by simp only [pu, hs]; simp [hl]
          rw [e]
          have hl' : ((n2 : Int) == 0) = false := by simp [hl]
          clear e
          go_enter Tryd.func63, Tryd.ntmps63
          go_wp2_with fail
          go_ret
          exact ⟨rfl, (Below.refl _ w).alloc (Nat.le_refl _) _⟩
        have hl0 : n2 = 0 := Decidable.of_not_not hl
        subst hl0
        clear hl
        by_cases hn : ¬ n1 = 0
        · have e : pu 3 false i s n1 0 = false := by simp only [pu, hs]; simp [hn]
          rw [e]
          have hn' : ((n1 : Int) == 0) = false := by simp [hn]
          clear e
          go_enter Tryd.func63, Tryd.ntmps63
          go_wp2_with fail
          go_ret
          exact ⟨rfl, (Below.refl _ w).alloc (Nat.le_refl _) _⟩
        have hn0 : n1 = 0 := Decidable.of_not_not hn
        subst hn0
        clear hn
        have e : pu 3 false i s 0 0 = true := by simp only [pu, hs]; simp
        rw [e]
        clear e
        go_enter Tryd.func63, Tryd.ntmps63
        go_wp2_with fail
        go_ret
        exact ⟨rfl, (Below.refl _ w).alloc (Nat.le_refl _) _⟩
  by_cases h4 : k = 4
  · subst h4
    cases b with
    | true =>
      have e : pu 4 true i s n1 n2 = false := by simp [pu]
      rw [e]
      clear e
      go_enter Tryd.func63, Tryd.ntmps63
      go_wp2_with fail
      go_ret
      exact ⟨rfl, (Below.refl _ w).alloc (Nat.le_refl _) _⟩
    | false =>
      by_cases hi : ¬ i = 0
      · have e : pu 4 false i s n1 n2 = false := by simp [pu, hi]
        rw [e]
        have hi' : (i == 0) = false := by simp [hi]
        clear e
        go_enter Tryd.func63, Tryd.ntmps63
        go_wp2_with fail
        go_ret
        exact ⟨rfl, (Below.refl _ w).alloc (Nat.le_refl _) _⟩
      have hi0 : i = 0 := Decidable.of_not_not hi
      subst hi0
      clear hi
      by_cases hl : ¬ n2 = 0
      · have e : pu 4 false 0 s n1 n2 = false := by simp only [pu]; simp [hl]
        rw [e]
        have hl' : ((n2 : Int) == 0) = false := by simp [hl]
        clear e
        go_enter Tryd.func63, Tryd.ntmps63
        go_wp2_with fail
        go_ret
        exact ⟨rfl, (Below.refl _ w).alloc (Nat.le_refl _) _⟩
      have hl0 : n2 = 0 := Decidable.of_not_not hl
      subst hl0
      clear hl
      by_cases hn : ¬ n1 = 0
      · have e : pu 4 false 0 s n1 0 = false := by simp only [pu]; simp [hn]
        rw [e]
        have hn' : ((n1 : Int) == 0) = false := by simp [hn]
        clear e
        go_enter Tryd.func63, Tryd.ntmps63
        go_wp2_with fail
        go_ret
        exact ⟨rfl, (Below.refl _ w).alloc (Nat.le_refl _) _⟩
      have hn0 : n1 = 0 := Decidable.of_not_not hn
      subst hn0
      clear hn
      have e : pu 4 false 0 s 0 0 = true := by simp only [pu]; simp
      rw [e]
      clear e
      go_enter Tryd.func63, Tryd.ntmps63
      go_wp2_with fail
      go_ret
      exact ⟨rfl, (Below.refl _ w).alloc (Nat.le_refl _) _⟩
  by_cases h5 : k = 5
  · subst h5
    cases b with
    | true =>
      have e : pu 5 true i s n1 n2 = false := by simp [pu]
      rw [e]
      clear e
      go_enter Tryd.func63, Tryd.ntmps63
      go_wp2_with fail
      go_ret
      exact ⟨rfl, (Below.refl _ w).alloc (Nat.le_refl _) _⟩
    | false =>
      by_cases hi : ¬ i = 0
      · have e : pu 5 false i s n1 n2 = false := by simp [pu, hi]
        rw [e]
        have hi' : (i == 0) = false := by simp [hi]
        clear e
        go_enter Tryd.func63, Tryd.ntmps63
        go_wp2_with fail
        go_ret
        exact ⟨rfl, (Below.refl _ w).alloc (Nat.le_refl _) _⟩
      have hi0 : i = 0 := Decidable.of_not_not hi
      subst hi0
      clear hi
      cases hs : s.toList.isEmpty with
      | false =>
        have e : pu 5 false 0 s n1 n2 = false := by simp only [pu, hs]; simp
        rw [e]
        clear e
        go_enter Tryd.func63, Tryd.ntmps63
        go_wp2_with fail
        go_ret
        exact ⟨rfl, (Below.refl _ w).alloc (Nat.le_refl _) _⟩
      | true =>
        by_cases hn : ¬ n1 = 0
        · have e : pu 5 false 0 s n1 n2 = false := by simp only [pu, hs]; simp [hn]
          rw [e]
          have hn' : ((n1 : Int) == 0) = false := by simp [hn]
          clear e
          go_enter Tryd.func63, Tryd.ntmps63
          go_wp2_with fail
          go_ret
          exact ⟨rfl, (Below.refl _ w).alloc (Nat.le_refl _) _⟩
        have hn0 : n1 = 0 := Decidable.of_not_not hn
        subst hn0
        clear hn
        have e : pu 5 false 0 s 0 n2 = true := by simp only [pu, hs]; simp
        rw [e]
        clear e
        go_enter Tryd.func63, Tryd.ntmps63
        go_wp2_with fail
        go_ret
        exact ⟨rfl, (Below.refl _ w).alloc (Nat.le_refl _) _⟩
  by_cases h6 : k = 6
  · subst h6
    cases b with
    | true =>
      have e : pu 6 true i s n1 n2 = false := by simp [pu]
      rw [e]
      clear e
      go_enter Tryd.func63, Tryd.ntmps63
      go_wp2_with fail
      go_ret
      exact ⟨rfl, (Below.refl _ w).alloc (Nat.le_refl _) _⟩
    | false =>
      by_cases hi : ¬ i = 0
      · have e : pu 6 false i s n1 n2 = false := by simp [pu, hi]
        rw [e]
        have hi' : (i == 0) = false := by simp [hi]
        clear e
        go_enter Tryd.func63, Tryd.ntmps63
        go_wp2_with fail
        go_ret
        exact ⟨rfl, (Below.refl _ w).alloc (Nat.le_refl _) _⟩
      have hi0 : i = 0 := Decidable.of_not_not hi
      subst hi0
      clear hi
      cases hs : s.toList.isEmpty with
      | false =>
        have e : pu 6 false 0 s n1 n2 = false := by simp only [pu, hs]; simp
        rw [e]
        clear e
        go_enter Tryd.func63, Tryd.ntmps63
        go_wp2_with fail
        go_ret
        exact ⟨rfl, (Below.refl _ w).alloc (Nat.le_refl _) _⟩
      | true =>
        have e : pu 6 false 0 s n1 n2 = true := by simp only [pu, hs]; simp
        rw [e]
        clear e
        go_enter Tryd.func63, Tryd.ntmps63
        go_wp2_with fail
        go_ret
        exact ⟨rfl, (Below.refl _ w).alloc (Nat.le_refl _) _⟩
  have h2' : (k == 2) = false := by simp [h2]
  have h3' : (k == 3) = false := by simp [h3]
  have h4' : (k == 4) = false := by simp [h4]
  have h5' : (k == 5) = false := by simp [h5]
  have h6' : (k == 6) = false := by simp [h6]
  cases b with
  | true =>
    have e : pu k true i s n1 n2 = false := by simp [pu, h2, h3, h4, h5, h6]
    rw [e]
    clear e
    go_enter Tryd.func63, Tryd.ntmps63
    go_wp2_with fail
    go_ret
    exact ⟨rfl, (Below.refl _ w).alloc (Nat.le_refl _) _⟩
  | false =>
    by_cases hi : ¬ i = 0
    · have e : pu k false i s n1 n2 = false := by simp [pu, hi, h2, h3, h4, h5, h6]
      rw [e]
      have hi' : (i == 0) = false := by simp [hi]
      clear e
      go_enter Tryd.func63, Tryd.ntmps63
      go_wp2_with fail
      go_ret
      exact ⟨rfl, (Below.refl _ w).alloc (Nat.le_refl _) _⟩
    have hi0 : i = 0 := Decidable.of_not_not hi
    subst hi0
    clear hi
    cases hs : s.toList.isEmpty with
    | false =>
      have e : pu k false 0 s n1 n2 = false := by simp only [pu, hs]; simp [h2, h3, h4, h5, h6]
      rw [e]
      clear e
      go_enter Tryd.func63, Tryd.ntmps63
      go_wp2_with fail
      go_ret
      exact ⟨rfl, (Below.refl _ w).alloc (Nat.le_refl _) _⟩
    | true =>
      by_cases hl : ¬ n2 = 0
      · have e : pu k false 0 s n1 n2 = false := by simp only [pu, hs]; simp [hl, h2, h3, h4, h5, h6]
        rw [e]
        have hl' : ((n2 : Int) == 0) = false := by simp [hl]
        clear e
        go_enter Tryd.func63, Tryd.ntmps63
        go_wp2_with fail
        go_ret
        exact ⟨rfl, (Below.refl _ w).alloc (Nat.le_refl _) _⟩
      have hl0 : n2 = 0 := Decidable.of_not_not hl
      subst hl0
      clear hl
      by_cases hn : ¬ n1 = 0
      · have e : pu k false 0 s n1 0 = false := by simp only [pu, hs]; simp [hn, h2, h3, h4, h5, h6]
        rw [e]
        have hn' : ((n1 : Int) == 0) = false := by simp [hn]
        clear e
        go_enter Tryd.func63, Tryd.ntmps63
        go_wp2_with fail
        go_ret
        exact ⟨rfl, (Below.refl _ w).alloc (Nat.le_refl _) _⟩
      have hn0 : n1 = 0 := Decidable.of_not_not hn
      subst hn0
      clear hn
      have e : pu k false 0 s 0 0 = true := by simp only [pu, hs]; simp
      rw [e]
      clear e
      go_enter Tryd.func63, Tryd.ntmps63
      go_wp2_with fail
      go_ret
      exact ⟨rfl, (Below.refl _ w).alloc (Nat.le_refl _) _⟩
end Go.Proofs.YtmoblfdepcjgfaaDoor.Pure

/- How deep trees are nested: contracts of trees and ShallowTrees. -/
import Derived.Test.YtgknjjaemjkloaaTBase
namespace Go.Proofs.Ytgknjjaemjkloaa.TShallow
open Go.RowKit Go.Proofs.Ytgknjjaemjkloaa.TBase
set_option linter.unusedVariables false

def depL : List T → Nat
  | [] => 0
  | .mk _ _ _ l :: cs => max (depL l + 1) (depL cs)
theorem depL_cons (c : T) (cs : List T) : depL (c :: cs) = max (depL c.l + 1) (depL cs) := by
  obtain ⟨g, s, n, l⟩ := c
  rw [depL]
  rfl
theorem depL_le {l : List T} {q : Nat} : depL l ≤ q ↔ ∀ j (h : j < l.length), depL l[j].l + 1 ≤ q := by
  induction l with
  | nil => simp [depL]
  | cons c cs ih =>
    rw [depL_cons, Nat.max_le, ih]
    constructor
    · rintro ⟨h1, h2⟩ j hj
      cases j with
      | zero => exact h1
      | succ j => exact h2 j (by simpa using hj)
    · intro h
      exact ⟨h 0 (by simp), fun j hj => h (j + 1) (by simpa using hj)⟩
def Deeps (m : Nat) : Prop := ∀ (v : Value) (l : List T) (left : Nat) (w : World), left ≤ 4096 → InL false All w m v l →
    Calls Try.prog 28 #[v, .int .i64 left] w fun r w' => r = .returned (.bool (decide (depL l ≤ left))) ∧ Below w.heap.size w w'
theorem deeps_of (m : Nat) (ih : ∀ m', m = m' + 1 → Deeps m') : Deeps m := by
  intro v l left w hleft h
  obtain ⟨a, cap, rfl, hl, hcap, hlen, ha, hL⟩ := h
  have H : Hid (∀ m', m = m' + 1 → Deeps m') := ih
  clear ih
  by_cases h0 : left = 0
  · subst h0
    have hd : decide (depL l ≤ 0) = ((l.length : Int) == 0) := by
      cases l with
      | nil => simp [depL]
      | cons c cs =>
        have : ¬ depL (c :: cs) ≤ 0 := by rw [depL_cons]; omega
        simp [this]
        omega
    rw [hd]
    clear hd hL
    go_enter Try.func28, Try.ntmps28
    go_wp2_with fail
    go_ret
    exact ⟨rfl, Below.refl _ _⟩
  · have h0' : ((left : Int) == 0) = false := by simp; omega
    go_enter Try.func28, Try.ntmps28
    go_wp2_with fail
    go_loopw [5] (fun i' wr => ∃ q : Nat, q ≤ l.length ∧ i' = .int .i64 q ∧ (∀ j (h : j < l.length), j < q → depL l[j].l + 1 ≤ left) ∧
      Below w.heap.size w wr) (fun i' _ => l.length - (intOf i').toNat)
    case atStart => exact ⟨0, by omega, rfl, fun j _ h => by omega, Below.refl _ _⟩
    case round =>
      obtain ⟨q, hq, rfl, hall, hb⟩ := hrel
      by_cases hlt : q < l.length
      · obtain ⟨g, o, u, rfl, -, hu, hin⟩ := elem_at hL hlt
        have hu := four_below hu hb
        have hin := hin.below hb
        obtain ⟨v0, v1, v2, v3, rfl, d0, d1, d2, d3⟩ := hu
        obtain ⟨m', a1, c1, a2, c2, hm, rfl, rfl, rfl, rfl, -, -, -, hk⟩ := hin.kinds
        have hc := H.out m' hm _ _ (left - 1) wr (by omega) hk
        rw [show ((left - 1 : Nat) : Int) = (left : Int) - 1 by omega] at hc
        clear hin hk
        go_wp2_with fail
        refine hc.mono ?_
        rintro e w2 ⟨rfl, b2⟩
        cases hd : decide (depL l[q].l ≤ left - 1) with
        | true =>
          go_wp2_with fail
          go_roundw
          case rel =>
            refine ⟨q + 1, by omega, by go_num, fun j hj hjq => ?_, nxB hb (by simp) b2⟩
            by_cases e : j = q
            · subst e
              have := of_decide_eq_true hd
              omega
            · exact hall j hj (by omega)
          case measure => simp only [intOf]; omega
        | false =>
          go_wp2_with fail
          go_ret
          refine ⟨?_, nx hb b2⟩
          have h1 : ¬ depL l[q].l ≤ left - 1 := of_decide_eq_false hd
          have : ¬ depL l ≤ left := fun h => h1 (by have := depL_le.1 h q hlt; omega)
          simp [this]
      · have hlt' : decide ((q : Int) < (l.length : Int)) = false := by simp; omega
        go_wp2_with fail
        go_ret
        refine ⟨?_, hb⟩
        have : depL l ≤ left := depL_le.2 fun j hj => hall j hj (by omega)
        simp [this]
theorem deeps : ∀ m, Deeps m := by
  intro m
  induction m with
  | zero => exact deeps_of 0 (fun m' h => by omega)
  | succ m ih => exact deeps_of (m + 1) (fun m' h => by have e : m = m' := (by omega); subst e; exact ih)
theorem shallow_c (m : Nat) (v : Value) (l : List T) (w : World) (h : InL false All w m v l) :
    Calls Try.prog 14 #[v] w fun r w' => r = .returned (.bool (decide (depL l ≤ 4096))) ∧ Below w.heap.size w w' := by
  have hv := deeps m v l 4096 w (by omega) h
  obtain ⟨a, cap, rfl, -⟩ := h
  generalize depL l = d at *
  generalize l.length = n at *
  go_enter Try.func14, Try.ntmps14
  go_wp2_with (first | (go_at_call 28; refine hv.mono ?_; rintro e w2 ⟨rfl, b2⟩))
  go_ret
  exact ⟨rfl, b2⟩
end Go.Proofs.Ytgknjjaemjkloaa.TShallow

/- How deep a value is nested: contracts of value and ShallowValue. -/
import Derived.Test.YtpaigpijaifeoaaGreatDoorBase
import Derived.LoopTactic
import Derived.LoopN
namespace Go.Proofs.YtpaigpijaifeoaaGreatDoor.Shallow
open Go.RowKit Go.Proofs.YtpaigpijaifeoaaGreatDoor.Base
set_option linter.unusedVariables false

def depL : List C → Nat
  | [] => 0
  | .mk _ _ _ _ _ l :: cs => max (depL l + 1) (depL cs)
def dep : C → Nat
  | .mk _ _ _ _ _ l => depL l + 1
theorem depL_cons (c : C) (cs : List C) : depL (c :: cs) = max (dep c) (depL cs) := by
  obtain ⟨k, b, i, s, n, l⟩ := c
  rw [depL, dep]
theorem depL_le {l : List C} {q : Nat} : depL l ≤ q ↔ ∀ j (h : j < l.length), dep l[j] ≤ q := by
  induction l with
  | nil => simp [depL]
  | cons c cs ih =>
    rw [depL_cons, Nat.max_le, ih]
    constructor
    · rintro ⟨h1, h2⟩ j hj
      cases j with
      | zero => exact h1
      | succ j => exact h2 j (by simpa using hj)
    · intro h
      exact ⟨h 0 (by simp), fun j hj => h (j + 1) (by simpa using hj)⟩
theorem value_c : ∀ (m : Nat) (v : Value) (c : C) (left : Nat) (w : World), left ≤ 4096 → In false All w m v c →
    Calls Tryz.prog 37 #[v, .int .i64 left] w fun r w' => r = .returned (.bool (decide (dep c ≤ left))) ∧ Below w.heap.size w w' := by
  intro m
  induction m with
  | zero => intro v c left w _ h; rw [In] at h; exact h.elim
  | succ m ih =>
    intro v c left w hle h
    obtain ⟨k, b, i, s, n, l⟩ := c
    rw [in_iff] at h
    obtain ⟨nv, lv, rfl, hk, hi, hs, hn, hL0⟩ := h
    obtain ⟨a, cap, rfl, hl, hcap, hlen, ha, hL⟩ := hL0.out
    clear hL0
    have ih' := Hid.out ih
    have H : Hid (∀ (v : Value) (c : C) (left : Nat) (w : World), left ≤ 4096 → In false All w m v c →
      Calls Tryz.prog 37 #[v, .int .i64 left] w fun r w' => r = .returned (.bool (decide (dep c ≤ left))) ∧ Below w.heap.size w w') := ih
    clear ih ih'
    by_cases h0 : left = 0
    · subst h0
      have hd : decide (dep (.mk k b i s n l) ≤ 0) = false := by simp [dep]
      rw [hd]
      clear hd
      go_enter Tryz.func37, Tryz.ntmps37
      go_wp2_with fail
      go_ret
      exact ⟨rfl, (Below.refl _ _).alloc (Nat.le_refl _) _⟩
    · have h0' : ((left : Int) == 0) = false := by simp; omega
      have hd : decide (dep (.mk k b i s n l) ≤ left) = decide (depL l ≤ left - 1) := by simp only [dep]; congr 1; exact propext ⟨fun _ => by omega, fun _ => by omega⟩
      rw [hd]
      clear hd
      go_enter Tryz.func37, Tryz.ntmps37
      go_wp2_with fail
      go_loopw [5] (fun i' wr => ∃ q : Nat, q ≤ l.length ∧ i' = .int .i64 q ∧ (∀ j (h : j < l.length), j < q → dep l[j] ≤ left - 1) ∧
        Below (w.heap.size + 1) (w.alloc (.cells #[.int .i64 k, .bool b, .int .i64 i, .string s, nv, .slice a l.length cap] 26)) wr) (fun i' _ => l.length - (intOf i').toNat)
      case atStart => exact ⟨0, by omega, rfl, fun j _ h => by omega, Below.refl _ _⟩
      case round =>
        obtain ⟨q, hq, rfl, hall, hb⟩ := hrel
        obtain ⟨c0, c1, c2, c3, c4, c5⟩ := six_box (box_at hb)
        by_cases hlt : q < l.length
        · obtain ⟨g, o, u, rfl, -, hu, hin⟩ := elem_at hL hlt
          have hu := six_below hu (below_box hb)
          have hin := hin.below (below_box hb)
          obtain ⟨v0, v1, v2, v3, v4, v5, rfl, d0, d1, d2, d3, d4, d5⟩ := hu
          go_wp2_with fail
          rw [show (left : Int) - 1 = ((left - 1 : Nat) : Int) by omega]
          refine (H.out _ _ (left - 1) _ (by omega) hin).mono ?_
          rintro e w2 ⟨rfl, b2⟩
          cases hd : decide (dep l[q] ≤ left - 1) with
          | true =>
            go_wp2_with fail
            go_roundw
            case rel =>
              refine ⟨q + 1, by omega, by go_num, fun j hj hjq => ?_, nxB hb (by simp) b2⟩
              by_cases e : j = q
              · subst e
                exact of_decide_eq_true hd
              · exact hall j hj (by omega)
            case measure => simp only [intOf]; omega
          | false =>
            go_wp2_with fail
            go_ret
            refine ⟨?_, nx (below_box hb) b2⟩
            have h1 : ¬ dep l[q] ≤ left - 1 := of_decide_eq_false hd
            have : ¬ depL l ≤ left - 1 := fun h => h1 (depL_le.1 h q hlt)
            simp [this]
        · have hlt' : decide ((q : Int) < (l.length : Int)) = false := by simp; omega
          go_wp2_with fail
          go_ret
          refine ⟨?_, below_box hb⟩
          have : depL l ≤ left - 1 := depL_le.2 fun j hj => hall j hj (by omega)
          simp [this]
theorem shallow_c (m : Nat) (v : Value) (c : C) (w : World) (h : In false All w m v c) :
    Calls Tryz.prog 29 #[v] w fun r w' => r = .returned (.bool (decide (dep c ≤ 4096))) ∧ Below w.heap.size w w' := by
  obtain ⟨v0, v1, v2, v3, v4, v5, rfl, -⟩ := h.six
  have hb : Below w.heap.size w (w.alloc (.cells #[v0, v1, v2, v3, v4, v5] 26)) := (Below.refl _ w).alloc (Nat.le_refl _) _
  have hv := value_c m _ c 4096 (w.alloc (.cells #[v0, v1, v2, v3, v4, v5] 26)) (by omega) (h.below hb)
  generalize dep c = d at *
  clear h
  go_enter Tryz.func29, Tryz.ntmps29
  go_wp2_with (first | (go_at_call 37; refine hv.mono ?_; rintro e w2 ⟨rfl, b2⟩))
  go_ret
  exact ⟨rfl, nx hb b2⟩
end Go.Proofs.YtpaigpijaifeoaaGreatDoor.Shallow

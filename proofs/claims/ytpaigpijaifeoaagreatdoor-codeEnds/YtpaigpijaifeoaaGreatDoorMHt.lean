/- What Check lets pass: at each instruction one height of the pile. -/
import Derived.Test.YtpaigpijaifeoaaGreatDoorCFl
namespace Go.Proofs.YtpaigpijaifeoaaGreatDoor.MHt
open Go.Proofs.YtpaigpijaifeoaaGreatDoor.IPure Go.Proofs.YtpaigpijaifeoaaGreatDoor.CPu Go.Proofs.YtpaigpijaifeoaaGreatDoor.CFl
set_option linter.unusedVariables false

/-- Heights that are known stay. -/
def Le (H H' : Nat → Int) : Prop := ∀ k, 0 ≤ H k → H' k = H k
theorem Le.refl (H : Nat → Int) : Le H H := fun _ _ => rfl
theorem Le.trans {A B D : Nat → Int} (h : Le A B) (k : Le B D) : Le A D := fun j hj => by
  have := h j hj
  rw [k j (by omega), this]
theorem ld_le (H : Nat → Int) (k : Nat) (x : Int) : Le H (ld H k x) := fun j hj => by
  unfold ld
  split
  · next h =>
    unfold upd
    split
    · next e => subst e; omega
    · rfl
  · rfl
theorem one_le {H H' : Nat → Int} {k : Nat} {x : Int} (e : one H k x = some H') (hx : 0 ≤ x) : Le H H' ∧ H' k = x := by
  unfold one at e
  split at e
  · next h => cases e; exact ⟨ld_le H k x, ld_at h⟩
  · cases e
theorem both_le {H H' : Nat → Int} {k k' : Nat} {x x' : Int} (e : both H k x k' x' = some H') (hx : 0 ≤ x) : Le H H' ∧ H' k = x ∧ H' k' = x' := by
  unfold both at e
  split at e
  · next h =>
    split at e
    · next h' =>
      cases e
      have h1 : ld H k x k = x := ld_at h
      exact ⟨(ld_le H k x).trans (ld_le _ _ _), (ld_le (ld H k x) k' x' k (by omega)).trans h1, ld_at h'⟩
    · cases e
  · cases e
/-- An instruction among heights. -/
structure St (n : Nat) (t d : Int) (H : Nat → Int) (i : Nat) (x : Ins) : Prop where
  pos : 0 ≤ H i
  fm : fmd x.1 x.2 = true
  nm : hnm t d x.1 x.2 = true
  jp : ijp x.1 = true → (i : Int) < x.2 ∧ x.2 ≤ (n : Int)
  nd : nd x.1 ≤ H i
  both : x.1 = 30 ∨ x.1 = 31 → H x.2.toNat = H i ∧ H (i + 1) = H i - 1
  els : x.1 = 32 → H x.2.toNat = H i - 1 ∧ H (i + 1) = H i - 1
  jump : x.1 = 33 → H x.2.toNat = H i
  next : ijp x.1 = false → H (i + 1) = H i - CPu.nd x.1 + 1
theorem lon_st {H H' Hf : Nat → Int} {i : Nat} {o a : Int} (hi : 0 ≤ H i) (e : lon H i o a = some H') (hf : Le H' Hf) : Le H H' ∧ CPu.nd o ≤ H i ∧ (o = 30 ∨ o = 31 → Hf a.toNat = H i ∧ Hf (i + 1) = H i - 1) ∧ (o = 32 → Hf a.toNat = H i - 1 ∧ Hf (i + 1) = H i - 1) ∧ (o = 33 → Hf a.toNat = H i) ∧ (ijp o = false → Hf (i + 1) = H i - CPu.nd o + 1) := by
  have hn := nd_range o
  unfold lon at e
  split at e
  · cases e
  next h1 =>
    split at e
    · next h2 =>
      have hnd : CPu.nd o = 1 := by rcases h2 with rfl | rfl; exact nd30; exact nd31
      obtain ⟨l1, l2, l3⟩ := both_le e (by omega)
      rw [hnd] at h1 l2 l3
      refine ⟨l1, by omega, fun _ => ⟨?_, ?_⟩, fun h => by omega, fun h => by omega, fun h => ?_⟩
      · rw [hf _ (by omega), l2]; omega
      · rw [hf _ (by omega), l3]
      · rcases h2 with rfl | rfl <;> cases h
    · split at e
      · next h2 h3 =>
        subst h3
        obtain ⟨l1, l2, l3⟩ := both_le e (by omega)
        rw [nd32] at h1 l2 l3
        refine ⟨l1, by rw [nd32]; omega, fun h => by omega, fun _ => ⟨?_, ?_⟩, fun h => by omega, fun h => by cases h⟩
        · rw [hf _ (by omega), l2]
        · rw [hf _ (by omega), l3]
      · split at e
        · next h2 h3 h4 =>
          subst h4
          obtain ⟨l1, l2⟩ := one_le e (by omega)
          rw [nd33] at h1 l2
          refine ⟨l1, by rw [nd33]; omega, fun h => by omega, fun h => by omega, fun _ => ?_, fun h => by cases h⟩
          rw [hf _ (by omega), l2]; omega
        · next h2 h3 h4 =>
          obtain ⟨l1, l2⟩ := one_le e (by omega)
          refine ⟨l1, by omega, fun h => absurd h h2, fun h => absurd h h3, fun h => absurd h h4, fun _ => ?_⟩
          rw [hf _ (by omega), l2]
theorem fls_st {n : Nat} {t d : Int} : ∀ (r : List Ins) (H : Nat → Int) (i : Nat), fls n t d H i r = 0 → ∃ Hf, Le H Hf ∧ Hf n = 1 ∧ ∀ j (h : j < r.length), St n t d Hf (i + j) r[j]
  | [], H, i, h => by
    rw [fls] at h
    split at h
    · next h1 => exact ⟨H, Le.refl H, h1, fun j hj => by cases hj⟩
    · cases h
  | x :: r, H, i, h => by
    rw [fls] at h
    cases e : fl n t d H i x with
    | error c =>
      rw [e] at h
      have h : c = 0 := h
      subst h
      unfold fl at e
      split at e
      · cases e
      split at e
      · cases e
      split at e
      · cases e
      split at e
      · cases e
      split at e
      · cases e
      · cases e
    | ok H' =>
      rw [e] at h
      have h : fls n t d H' (i + 1) r = 0 := h
      obtain ⟨Hf, hle, h1, hst⟩ := fls_st r H' (i + 1) h
      unfold fl at e
      split at e
      · cases e
      split at e
      · cases e
      split at e
      · cases e
      split at e
      · cases e
      next g1 g2 g3 g4 =>
        split at e
        · cases e
        · next H'' hl =>
          cases e
          obtain ⟨q1, q2, q3, q4, q5, q6⟩ := lon_st (by omega) hl hle
          have hfi : Hf i = H i := q1.trans hle i (by omega)
          refine ⟨Hf, q1.trans hle, h1, fun j hj => ?_⟩
          cases j with
          | zero =>
            have key : St n t d Hf i x := ⟨by rw [hfi]; omega, by simpa using g2, by simpa using g3, fun hj2 => by
              have hx : ¬ (x.2 ≤ (i : Int) ∨ (n : Int) < x.2) := fun hh => g4 ⟨hj2, hh⟩
              omega, by rw [hfi]; exact q2, by rw [hfi]; exact q3, by rw [hfi]; exact q4, by rw [hfi]; exact q5, by rw [hfi]; exact q6⟩
            exact key
          | succ j =>
            have := hst j (by simpa using hj)
            rw [show i + 1 + j = i + (j + 1) by omega] at this
            simpa using this
/-- The heights of code that Check takes. -/
theorem ck_st {L : List Ins} {t d : Int} (h : ck L t d = 0) : L.length ≤ 8192 ∧ ∃ H, H 0 = 0 ∧ H L.length = 1 ∧ ∀ j (h : j < L.length), St L.length t d H j L[j] := by
  unfold ck at h
  split at h
  · cases h
  · next h8 =>
    obtain ⟨Hf, h1, h2, h3⟩ := fls_st L h0 0 h
    refine ⟨by omega, Hf, ?_, h2, fun j hj => by have := h3 j hj; rwa [Nat.zero_add] at this⟩
    rw [h1 0 (by decide)]
    rfl
end Go.Proofs.YtpaigpijaifeoaaGreatDoor.MHt

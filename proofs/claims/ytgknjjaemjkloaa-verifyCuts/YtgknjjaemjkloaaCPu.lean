/- Code that is checked, plainly. -/
import Derived.Test.YtgknjjaemjkloaaIBase
namespace Go.Proofs.Ytgknjjaemjkloaa.CPu
open Go.Proofs.Ytgknjjaemjkloaa.IPure
set_option linter.unusedVariables false

/-- An instruction: Op and A. -/
abbrev Ins := Int × Int
/-- How many values an instruction takes or looks at. -/
def nd (o : Int) : Int := bif decide (o ≤ 6) || (o == 33) then 0 else bif (o == 8) || (decide (12 ≤ o) && decide (o ≤ 28)) then 2 else 1
def fmd (o a : Int) : Bool := bif (o == 4) || ((o == 5) || ((o == 6) || ((o == 7) || ((o == 30) || ((o == 31) || ((o == 32) || (o == 33))))))) then true else bif (o == 9) then decide (1 ≤ a) && decide (a ≤ 8) else (decide (1 ≤ o) && decide (o ≤ 33)) && (a == 0)
def ijp (o : Int) : Bool := decide (30 ≤ o) && decide (o ≤ 33)
def hnm (t d o a : Int) : Bool := bif (o == 5) || (o == 7) then decide (0 ≤ a) && decide (a < t) else bif (o == 6) then decide (0 ≤ a) && decide (a < d) else true
/-- A way leads to k with h values: may it, and the heights behind it. -/
def ldb (H : Nat → Int) (k : Nat) (h : Int) : Bool := bif decide (H k < 0) then true else H k == h
def ld (H : Nat → Int) (k : Nat) (h : Int) : Nat → Int := if H k < 0 then upd H k h else H
def both (H : Nat → Int) (k : Nat) (h : Int) (k' : Nat) (h' : Int) : Option (Nat → Int) := if ldb H k h = true then (if ldb (ld H k h) k' h' = true then some (ld (ld H k h) k' h') else none) else none
def one (H : Nat → Int) (k : Nat) (h : Int) : Option (Nat → Int) := if ldb H k h = true then some (ld H k h) else none
/-- Where an instruction leads to. -/
def lon (H : Nat → Int) (i : Nat) (o a : Int) : Option (Nat → Int) :=
  if H i - nd o < 0 then none
  else if o = 30 ∨ o = 31 then both H a.toNat (H i - nd o + 1) (i + 1) (H i - nd o)
  else if o = 32 then both H a.toNat (H i - nd o) (i + 1) (H i - nd o)
  else if o = 33 then one H a.toNat (H i - nd o)
  else one H (i + 1) (H i - nd o + 1)
/-- One instruction: its fault, or the heights behind it. -/
def fl (n : Nat) (t d : Int) (H : Nat → Int) (i : Nat) (x : Ins) : Except Int (Nat → Int) :=
  if H i < 0 then .error 2001
  else if fmd x.1 x.2 = false then .error 2000
  else if hnm t d x.1 x.2 = false then .error 2003
  else if ijp x.1 = true ∧ (x.2 ≤ i ∨ (n : Int) < x.2) then .error 2002
  else match lon H i x.1 x.2 with
    | none => .error 2001
    | some H' => .ok H'
/-- All of them from number i on. -/
def fls (n : Nat) (t d : Int) : (Nat → Int) → Nat → List Ins → Int
  | H, _, [] => if H n = 1 then 0 else 2001
  | H, i, x :: r => match fl n t d H i x with
    | .error e => e
    | .ok H' => fls n t d H' (i + 1) r
def h0 : Nat → Int := fun k => if k = 0 then 0 else -1
/-- What Check answers. -/
def ck (L : List Ins) (t d : Int) : Int := if 8192 < L.length then 2004 else fls L.length t d h0 0 L
/-- Heights that may be. -/
def Hb (H : Nat → Int) : Prop := ∀ k, -1 ≤ H k ∧ H k ≤ k
theorem hb0 : Hb h0 := fun k => by unfold h0; split <;> omega
theorem ld_hb {H : Nat → Int} (h : Hb H) {k : Nat} {x : Int} (h1 : 0 ≤ x) (h2 : x ≤ k) : Hb (ld H k x) := by
  intro j
  unfold ld
  split
  · unfold upd
    split
    · next e => subst e; omega
    · exact h j
  · exact h j
theorem ld_at {H : Nat → Int} {k : Nat} {x : Int} (h : ldb H k x = true) : ld H k x k = x := by
  unfold ldb at h
  unfold ld
  by_cases hk : H k < 0
  · simp [hk, upd]
  · simp [hk] at h ⊢
    exact h
theorem nd_range (o : Int) : 0 ≤ nd o ∧ nd o ≤ 2 := by
  unfold nd
  cases decide (o ≤ 6) || (o == 33) <;> cases (o == 8) || (decide (12 ≤ o) && decide (o ≤ 28)) <;> simp
theorem both_hb {H H' : Nat → Int} (h : Hb H) {k k' : Nat} {x x' : Int} (h1 : 0 ≤ x) (h2 : x ≤ k) (h3 : 0 ≤ x') (h4 : x' ≤ k') (e : both H k x k' x' = some H') : Hb H' := by
  unfold both at e
  split at e
  · split at e
    · cases e; exact ld_hb (ld_hb h h1 h2) h3 h4
    · cases e
  · cases e
theorem one_hb {H H' : Nat → Int} (h : Hb H) {k : Nat} {x : Int} (h1 : 0 ≤ x) (h2 : x ≤ k) (e : one H k x = some H') : Hb H' := by
  unfold one at e
  split at e
  · cases e; exact ld_hb h h1 h2
  · cases e
theorem nd30 : nd 30 = 1 := by decide
theorem nd31 : nd 31 = 1 := by decide
theorem nd32 : nd 32 = 1 := by decide
theorem nd33 : nd 33 = 0 := by decide
theorem lon_hb {H H' : Nat → Int} (h : Hb H) {i : Nat} {o a : Int} (ha : ijp o = true → (i : Int) < a) (e : lon H i o a = some H') : Hb H' := by
  have hi := h i
  have hn := nd_range o
  have hj : o = 30 ∨ o = 31 ∨ o = 32 ∨ o = 33 → (i : Int) < a := fun hh => ha (by unfold ijp; rcases hh with rfl | rfl | rfl | rfl <;> decide)
  unfold lon at e
  split at e
  · cases e
  · next h1 =>
    split at e
    · next h2 =>
      have hk := hj (by omega)
      have : nd o = 1 := by rcases h2 with rfl | rfl; exact nd30; exact nd31
      exact both_hb h (by omega) (by omega) (by omega) (by omega) e
    · split at e
      · next h2 =>
        have hk := hj (by omega)
        exact both_hb h (by omega) (by omega) (by omega) (by omega) e
      · split at e
        · next h2 =>
          have hk := hj (by omega)
          exact one_hb h (by omega) (by omega) e
        · exact one_hb h (by omega) (by omega) e
theorem fl_hb {n : Nat} {t d : Int} {H H' : Nat → Int} (h : Hb H) {i : Nat} {x : Ins} (e : fl n t d H i x = .ok H') : Hb H' := by
  unfold fl at e
  split at e
  · cases e
  split at e
  · cases e
  split at e
  · cases e
  split at e
  · cases e
  next hj =>
    split at e
    · cases e
    · next hl =>
      cases e
      refine lon_hb h (fun hp => ?_) hl
      exact Int.lt_of_not_ge fun hh => hj ⟨hp, .inl hh⟩
end Go.Proofs.Ytgknjjaemjkloaa.CPu

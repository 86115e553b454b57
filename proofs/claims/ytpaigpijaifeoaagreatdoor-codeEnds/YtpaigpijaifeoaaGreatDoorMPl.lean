/- Code that is run, plainly. -/
import Derived.Test.YtpaigpijaifeoaaGreatDoorVPure
import Derived.Test.YtpaigpijaifeoaaGreatDoorCPu
namespace Go.Proofs.YtpaigpijaifeoaaGreatDoor.MPl
open Go.Proofs.YtpaigpijaifeoaaGreatDoor.Base Go.Proofs.YtpaigpijaifeoaaGreatDoor.VPure Go.Proofs.YtpaigpijaifeoaaGreatDoor.CPu
set_option linter.unusedVariables false

/-- The second operand, and what is left of the pile. -/
def sec (T : List ByteArray) (o a : Int) (p : List C) : C × List C := if o = 7 then (strC (T.getD a.toNat ⟨#[]⟩), p) else if o = 9 then (intC a, p) else if o = 10 ∨ o = 11 then (zerC, p) else (p.getLastD zerC, p.dropLast)
/-- An instruction behind which the next one follows; the top of the pile is the last one. -/
def dop (T : List ByteArray) (S : List C) (o a : Int) (p : List C) : Except Nat (List C) :=
  if o = 1 then .ok (p ++ [nulC])
  else if o = 2 ∨ o = 3 then .ok (p ++ [booC (decide (o = 3))])
  else if o = 4 then .ok (p ++ [intC a])
  else if o = 5 then .ok (p ++ [strC (T.getD a.toNat ⟨#[]⟩)])
  else if o = 6 then .ok (p ++ [S.getD a.toNat zerC])
  else if o = 29 then (if (p.getLastD zerC).k = 2 then .ok p else .error 1101)
  else bnd (pr2 o ((sec T o a p).2.getLastD zerC) (sec T o a p).1) fun v => .ok ((sec T o a p).2.dropLast ++ [v])
/-- One instruction: where it goes on, with what pile. -/
def ins (T : List ByteArray) (S : List C) (i : Nat) (x : Ins) (p : List C) : Except Nat (Nat × List C) :=
  if x.1 = 30 ∨ x.1 = 31 then (if (p.getLastD zerC).k = 2 then (if (p.getLastD zerC).b = decide (x.1 = 31) then .ok (x.2.toNat, p) else .ok (i + 1, p.dropLast)) else .error 1101)
  else if x.1 = 32 then (if (p.getLastD zerC).k = 2 then .ok (if (p.getLastD zerC).b = true then i + 1 else x.2.toNat, p.dropLast) else .error 1101)
  else if x.1 = 33 then .ok (x.2.toNat, p)
  else bnd (dop T S x.1 x.2 p) fun p' => .ok (i + 1, p')
/-- All of it, from number i on. -/
def mrun (L : List Ins) (T : List ByteArray) (S : List C) : Nat → Nat → List C → Except Nat C
  | 0, _, p => .ok (p.getLastD zerC)
  | f + 1, i, p => match L[i]? with
    | none => .ok (p.getLastD zerC)
    | some x => bnd (ins T S i x p) fun r => mrun L T S f r.1 r.2
theorem last_snoc (q : List C) (c : C) : (q ++ [c]).getLastD zerC = c := by simp
theorem drop_snoc (q : List C) (c : C) : (q ++ [c]).dropLast = q := by simp
theorem snoc_of {p : List C} (h : 1 ≤ p.length) : ∃ q c, p = q ++ [c] := by
  have hn : p ≠ [] := fun e => by subst e; simp at h
  exact ⟨p.dropLast, p.getLast hn, (List.dropLast_concat_getLast hn).symm⟩
/-- How high the pile is behind an instruction. -/
theorem dop_len {T : List ByteArray} {S : List C} {o a : Int} {p p' : List C} (h1 : 1 ≤ o) (h2 : o ≤ 29) (hn : nd o ≤ p.length) (h : dop T S o a p = .ok p') : (p'.length : Int) = p.length - nd o + 1 := by
  have hb : ∀ (b : Bool), decide (o ≤ 6) = b → b = decide (o ≤ 6) := fun b h => h.symm
  unfold dop at h
  split at h
  · next e => subst e; cases h; simp [show nd 1 = 0 from by decide]
  split at h
  · next e =>
    cases h
    have : nd o = 0 := by rcases e with rfl | rfl <;> decide
    simp [this]
  split at h
  · next e => subst e; cases h; simp [show nd 4 = 0 from by decide]
  split at h
  · next e => subst e; cases h; simp [show nd 5 = 0 from by decide]
  split at h
  · next e => subst e; cases h; simp [show nd 6 = 0 from by decide]
  split at h
  · next e =>
    subst e
    split at h
    · cases h
      have : nd 29 = 1 := by decide
      rw [this]
      omega
    · cases h
  next e1 e2 e3 e4 e5 e6 =>
    cases hp : pr2 o ((sec T o a p).2.getLastD zerC) (sec T o a p).1 with
    | error n => rw [hp] at h; cases h
    | ok v =>
      rw [hp] at h
      have h : (Except.ok ((sec T o a p).2.dropLast ++ [v]) : Except Nat (List C)) = .ok p' := h
      cases h
      by_cases hs : o = 7 ∨ o = 9 ∨ o = 10 ∨ o = 11
      · have hnd : nd o = 1 := by rcases hs with rfl | rfl | rfl | rfl <;> decide
        have hse : (sec T o a p).2 = p := by
          unfold sec
          rcases hs with rfl | rfl | rfl | rfl <;> rfl
        rw [hnd] at hn ⊢
        rw [hse]
        simp
        omega
      · have hnd : nd o = 2 := by
          have a1 : decide (o ≤ 6) = false := by simp; omega
          have a2 : (o == 33) = false := by simp; omega
          have a3 : ((o == 8) || (decide (12 ≤ o) && decide (o ≤ 28))) = true := by
            by_cases h8 : o = 8
            · subst h8; decide
            · have b1 : decide (12 ≤ o) = true := by simp; omega
              have b2 : decide (o ≤ 28) = true := by simp; omega
              simp [b1, b2]
          unfold nd
          rw [a1, a2, a3]
          rfl
        have hse : (sec T o a p).2 = p.dropLast := by
          unfold sec
          rw [if_neg (by omega), if_neg (by omega), if_neg (by omega)]
        rw [hnd] at hn ⊢
        rw [hse]
        simp
        omega
end Go.Proofs.YtpaigpijaifeoaaGreatDoor.MPl

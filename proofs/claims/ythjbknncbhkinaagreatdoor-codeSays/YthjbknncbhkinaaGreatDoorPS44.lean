import Derived.Test.YthjbknncbhkinaaGreatDoorPS07
import Derived.Test.YthjbknncbhkinaaGreatDoorPS22
set_option linter.unusedVariables false
namespace Go.Proofs.YthjbknncbhkinaaGreatDoor.JPure
open Go.RowKit Base EPure VPure
open SFit (kd)
def evL (ρ : Int -> Option C) : List Ex -> List Ans
 | [] => []
 | .mk o i s l :: t => node (fun _ => ρ i) o i s (evL ρ l) :: evL ρ t
def ev (ρ : Int -> Option C) (x : Ex) : Ans := node (fun _ => ρ x.i) x.o x.i x.s (evL ρ x.l)
theorem evL_cons (ρ : Int -> Option C) (x : Ex) (t : List Ex) : evL ρ (x :: t) = ev ρ x :: evL ρ t := by
 obtain ⟨o, i, s, l⟩ := x
 rw [evL]
 rfl
theorem evL_get (ρ : Int -> Option C) : ∀ (l : List Ex) (j : Nat) (h : j < l.length), (evL ρ l).getD j (.error 0) = ev ρ l[j]
 | [], j, h => absurd h (by simp)
 | x :: t, 0, h => by rw [evL_cons]; rfl
 | x :: t, j + 1, h => by
  rw [evL_cons]
  have := evL_get ρ t j (by simpa using h)
  simpa using this
theorem evL_wf {ρ : Int -> Option C} (hρ : ∀ (j : Int) c, ρ j = some c -> wf c) : ∀ (l : List Ex) (q : Nat) (c : C), (evL ρ l).getD q (.error 0) = .ok c -> wf c
 | [], q, c, h => by simp [evL] at h
 | .mk o i s l :: t, 0, c, h => by
  rw [evL] at h
  exact node_wf (fun _ c h => hρ i c h) (evL_wf hρ l) h
 | .mk o i s l :: t, q + 1, c, h => by
  rw [evL] at h
  exact evL_wf hρ t q c (by simpa using h)
theorem ev_wf {ρ : Int -> Option C} (hρ : ∀ (j : Int) c, ρ j = some c -> wf c) (x : Ex) (c : C) (h : ev ρ x = .ok c) : wf c := node_wf (fun _ c h => hρ x.i c h) (evL_wf hρ x.l) h
def gdL : List Ex -> Prop
 | [] => True
 | .mk o i s l :: t => ((l.length : Int) = kd o /\ True /\ gdL l) /\ gdL t
theorem gdL_cons {x : Ex} {t : List Ex} : gdL (x :: t) ↔ ((x.l.length : Int) = kd x.o /\ True /\ gdL x.l) /\ gdL t := by
 obtain ⟨o, i, s, l⟩ := x
 rw [gdL]
 exact Iff.rfl
def gd (x : Ex) : Prop := (x.l.length : Int) = kd x.o /\ True /\ gdL x.l
theorem gdL_get : ∀ {l : List Ex}, gdL l -> ∀ {j : Nat} (h : j < l.length), gd l[j]
 | [], _, _, h => absurd h (by simp)
 | x :: t, hg, 0, _ => (gdL_cons.1 hg).1
 | x :: t, hg, j + 1, h => gdL_get (gdL_cons.1 hg).2 (j := j) (by simpa using h)
end Go.Proofs.YthjbknncbhkinaaGreatDoor.JPure

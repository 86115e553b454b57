import Derived.Test.YthonejomogkjjaaGreatDoorPA05
import Derived.Test.YthonejomogkjjaaGreatDoorPA12
set_option linter.unusedVariables false
namespace Go.Proofs.YthonejomogkjjaaGreatDoor.JPure
open Go.RowKit Base EPure VPure
open SFit (kd)
def evL (ρ : Int → Option C) : List Ex → List Ans
 | [] => []
 | .mk o i s l :: t => node (fun _ => ρ i) o i s (evL ρ l) :: evL ρ t
def ev (ρ : Int → Option C) (x : Ex) : Ans := node (fun _ => ρ x.i) x.o x.i x.s (evL ρ x.l)
theorem evL_cons (ρ : Int → Option C) (x : Ex) (t : List Ex) : evL ρ (x :: t) = ev ρ x :: evL ρ t := by
 obtain ⟨o, i, s, l⟩ := x
 rw [evL]
 rfl
theorem evL_get (ρ : Int → Option C) : ∀ (l : List Ex) (j : Nat) (h : j < l.length), (evL ρ l).getD j (.error 0) = ev ρ l[j]
 | [], j, h => absurd h (by simp)
 | x :: t, 0, h => by rw [evL_cons]; rfl
 | x :: t, j + 1, h => by
  rw [evL_cons]
  have := evL_get ρ t j (by simpa using h)
  simpa using this
theorem evL_wf {ρ : Int → Option C} (hρ : ∀ (j : Int) c, ρ j = some c → wf c) : ∀ (l : List Ex) (q : Nat) (c : C), (evL ρ l).getD q (.error 0) = .ok c → wf c
 | [], q, c, h => by simp [evL] at h
 | .mk o i s l :: t, 0, c, h => by
  rw [evL] at h
  exact node_wf (fun _ c h => hρ i c h) (evL_wf hρ l) h
 | .mk o i s l :: t, q + 1, c, h => by
  rw [evL] at h
  exact evL_wf hρ t q c (by simpa using h)
theorem ev_wf {ρ : Int → Option C} (hρ : ∀ (j : Int) c, ρ j = some c → wf c) (x : Ex) (c : C) (h : ev ρ x = .ok c) : wf c := node_wf (fun _ c h => hρ x.i c h) (evL_wf hρ x.l) h
def gdL : List Ex → Prop
 | [] => True
 | .mk o i s l :: t => ((l.length : Int) = kd o ∧ True ∧ gdL l) ∧ gdL t
theorem gdL_cons {x : Ex} {t : List Ex} : gdL (x :: t) ↔ ((x.l.length : Int) = kd x.o ∧ True ∧ gdL x.l) ∧ gdL t := by
 obtain ⟨o, i, s, l⟩ := x
 rw [gdL]
 exact Iff.rfl
def gd (x : Ex) : Prop := (x.l.length : Int) = kd x.o ∧ True ∧ gdL x.l
theorem gdL_get : ∀ {l : List Ex}, gdL l → ∀ {j : Nat} (h : j < l.length), gd l[j]
 | [], _, _, h => absurd h (by simp)
 | x :: t, hg, 0, _ => (gdL_cons.1 hg).1
 | x :: t, hg, j + 1, h => gdL_get (gdL_cons.1 hg).2 (j := j) (by simpa using h)
end Go.Proofs.YthonejomogkjjaaGreatDoor.JPure
namespace Go.Proofs.YthonejomogkjjaaGreatDoor.JEr
open Go.RowKit Base EPure JPure
open VPure hiding evL
open SFit (kd)
def N0 {α : Type} (x : Except Nat α) : Prop := x ≠ .error 0
theorem ok0 {α : Type} (a : α) : N0 (.ok a) := fun h => by cases h
theorem er0 {α : Type} {e : Nat} (h : e ≠ 0) : N0 (.error e : Except Nat α) := fun q => by injection q with q; exact h q
theorem bnd0 {α β : Type} {x : Except Nat α} {f : α → Except Nat β} (h : N0 x) (hf : ∀ a, N0 (f a)) : N0 (bnd x f) := by
 cases x with
 | error e => exact er0 fun q => h (by rw [q])
 | ok a => exact hf a
theorem isT0 (c : C) : N0 (isT c) := by unfold isT; split <;> first | exact ok0 _ | exact er0 (by decide)
theorem chk0 (x e : Int) : N0 (chkI x e) := by unfold chkI; (repeat' split) <;> first | exact ok0 _ | exact er0 (by decide)
theorem mapI0 {x : Except Nat Int} (h : N0 x) : N0 (mapI x) := by
 cases x with
 | error e => exact er0 fun q => h (by rw [q])
 | ok a => exact ok0 _
theorem mapS0 {x : Except Nat ByteArray} (h : N0 x) : N0 (mapS x) := by
 cases x with
 | error e => exact er0 fun q => h (by rw [q])
 | ok a => exact ok0 _
theorem mapB0 {x : Except Nat Bool} (h : N0 x) : N0 (mapB x) := by
 cases x with
 | error e => exact er0 fun q => h (by rw [q])
 | ok a => exact ok0 _
theorem txt0 (c : C) : N0 (txt c) := by unfold txt; split <;> first | exact ok0 _ | exact er0 (by decide)
theorem ord0 (k1 i1 : Int) (s1 : ByteArray) (k2 i2 : Int) (s2 : ByteArray) : N0 (ord k1 i1 s1 k2 i2 s2) := by unfold ord; (repeat' split) <;> first | exact ok0 _ | exact er0 (by decide)
theorem numb0 (o : Int) (a b : C) : N0 (numb o a b) := by
 refine mapI0 ?_
 unfold twI
 (repeat' split) <;> first | exact chk0 _ _ | exact er0 (by decide)
theorem pr20 (o : Int) (a b : C) : N0 (pr2 o a b) := by
 unfold pr2
 by_cases q : o = 17
 ·rw [if_pos q]
  exact bnd0 (txt0 a) fun x => bnd0 (txt0 b) fun y => by split <;> first | exact er0 (by decide) | exact ok0 _
 rw [if_neg q]
 clear q
 by_cases q : o = 10
 ·rw [if_pos q]; exact numb0 _ _ _
 rw [if_neg q]
 clear q
 by_cases q : o = 23
 ·rw [if_pos q]; exact bnd0 (ord0 _ _ _ _ _ _) fun _ => ok0 _
 rw [if_neg q]
 clear q
 by_cases q : o = 24
 ·rw [if_pos q]; exact bnd0 (ord0 _ _ _ _ _ _) fun _ => ok0 _
 rw [if_neg q]
 clear q
 by_cases q : o = 25
 ·rw [if_pos q]; exact bnd0 (ord0 _ _ _ _ _ _) fun _ => ok0 _
 rw [if_neg q]
 clear q
 by_cases q : o = 26
 ·rw [if_pos q]; exact bnd0 (ord0 _ _ _ _ _ _) fun _ => ok0 _
 rw [if_neg q]
 clear q
 by_cases q : o = 27
 ·rw [if_pos q]; exact ok0 _
 rw [if_neg q]
 clear q
 by_cases q : o = 28
 ·rw [if_pos q]; exact ok0 _
 rw [if_neg q]
 clear q
 by_cases q : o = 7 ∨ o = 8
 ·rw [if_pos q]
  unfold VPure.prt prtR
  by_cases q5 : a.k = 5
  ·rw [if_pos q5]
   (repeat' split) <;> first | exact er0 (by decide) | exact ok0 _
  ·rw [if_neg q5]
   by_cases q6 : a.k = 6 ∧ b.k = 4
   ·rw [if_pos q6]
    cases Part.fi a.n b.s with
    | none => exact er0 (by decide)
    | some q => exact ok0 _
   ·rw [if_neg q6]; exact er0 (by decide)
 rw [if_neg q]
 clear q
 by_cases q : o = 9
 ·rw [if_pos q]
  unfold cal
  by_cases q1 : b.i = 1
  ·rw [if_pos q1]
   refine mapI0 ?_
   unfold lenI
   (repeat' split) <;> first | exact er0 (by decide) | exact ok0 _
  rw [if_neg q1]
  by_cases q2 : b.i = 2
  ·rw [if_pos q2]; exact mapS0 (txt0 a)
  ·rw [if_neg q2]
   refine mapI0 ?_
   unfold tunI
   split <;> first | exact er0 (by decide) | exact ok0 _
 rw [if_neg q]
 clear q
 by_cases q : o = 11
 ·rw [if_pos q]
  refine mapB0 ?_
  unfold notT
  split <;> first | exact er0 (by decide) | exact ok0 _
 rw [if_neg q]
 clear q
 by_cases q : o = 20 ∨ o = 21 ∨ o = 22
 ·rw [if_pos q]
  refine mapI0 ?_
  unfold twX
  (repeat' split) <;> first | exact er0 (by decide) | exact ok0 _
 rw [if_neg q]
 clear q
 exact numb0 _ _ _
theorem kd_pos {o : Int} {n : Nat} (h : (n : Int) = kd o) (h1 : ¬ (1 ≤ o ∧ o ≤ 6)) : 0 < n ∧ (¬ (o = 7 ∨ o = 9 ∨ o = 10 ∨ o = 11) → 1 < n) ∧ (o = 31 → 2 < n) := by
 unfold kd at h
 rw [if_neg h1] at h
 by_cases h2 : o = 7 ∨ o = 9 ∨ o = 10 ∨ o = 11
 ·rw [if_pos h2] at h; exact ⟨by omega, fun q => (q h2).elim, fun q => by omega⟩
 rw [if_neg h2] at h
 by_cases h3 : o = 8 ∨ (12 ≤ o ∧ o ≤ 30)
 ·rw [if_pos h3] at h; exact ⟨by omega, fun _ => by omega, fun q => by omega⟩
 rw [if_neg h3] at h
 by_cases h4 : o = 31
 ·rw [if_pos h4] at h; exact ⟨by omega, fun _ => by omega, fun q => by omega⟩
 rw [if_neg h4] at h
 omega
theorem node0 {ρ : ByteArray → Option C} {o i : Int} {s : ByteArray} {p : List Ans} (hk : (p.length : Int) = kd o) (hp : ∀ q, q < p.length → N0 (p.getD q (.error 0))) : N0 (node ρ o i s p) := by
 unfold node
 by_cases q1 : o = 1
 ·rw [if_pos q1]; exact ok0 _
 rw [if_neg q1]
 by_cases q2 : o = 2 ∨ o = 3
 ·rw [if_pos q2]; exact ok0 _
 rw [if_neg q2]
 by_cases q4 : o = 4
 ·rw [if_pos q4]; exact ok0 _
 rw [if_neg q4]
 by_cases q5 : o = 5
 ·rw [if_pos q5]; exact ok0 _
 rw [if_neg q5]
 by_cases q6 : o = 6
 ·rw [if_pos q6]
  cases ρ s with
  | none => exact er0 (by decide)
  | some c => exact ok0 _
 rw [if_neg q6]
 obtain ⟨k0, k1, k2⟩ := kd_pos hk (by omega)
 have h0 := hp 0 k0
 by_cases q29 : o = 29 ∨ o = 30
 ·rw [if_pos q29]
  have h1 := hp 1 (k1 (by omega))
  exact bnd0 (bnd0 h0 isT0) fun b => by
   split
   ·exact ok0 _
   ·exact bnd0 (bnd0 h1 isT0) fun c => ok0 _
 rw [if_neg q29]
 by_cases q31 : o = 31
 ·rw [if_pos q31]
  have h1 := hp 1 (k1 (by omega))
  have h2 := hp 2 (k2 q31)
  exact bnd0 (bnd0 h0 isT0) fun b => by
   split
   ·exact h1
   ·exact h2
 rw [if_neg q31]
 refine bnd0 h0 fun a => bnd0 ?_ fun b => pr20 o a b
 unfold snd2
 by_cases r7 : o = 7
 ·rw [if_pos r7]; exact ok0 _
 rw [if_neg r7]
 by_cases r9 : o = 9
 ·rw [if_pos r9]; exact ok0 _
 rw [if_neg r9]
 by_cases r10 : o = 10 ∨ o = 11
 ·rw [if_pos r10]; exact ok0 _
 rw [if_neg r10]
 exact hp 1 (k1 (by omega))
theorem evL_len (ρ : Int → Option C) : ∀ l : List Ex, (evL ρ l).length = l.length
 | [] => by rw [evL]; rfl
 | x :: t => by rw [evL_cons, List.length_cons, List.length_cons, evL_len ρ t]
theorem evL0 {ρ : Int → Option C} : ∀ (l : List Ex), gdL l → ∀ q, q < (evL ρ l).length → N0 ((evL ρ l).getD q (.error 0))
 | [], _, q, h => by rw [evL] at h; simp at h
 | .mk o i s l :: t, hg, 0, h => by
  rw [gdL] at hg
  rw [evL]
  show N0 (node (fun _ => ρ i) o i s (evL ρ l))
  exact node0 (by rw [evL_len]; exact hg.1.1) (evL0 (ρ := ρ) l hg.1.2.2)
 | .mk o i s l :: t, hg, q + 1, h => by
  rw [gdL] at hg
  rw [evL] at h ⊢
  have := evL0 (ρ := ρ) t hg.2 q (by simpa using h)
  simpa using this
theorem ev0 {ρ : Int → Option C} {x : Ex} (hg : gd x) : ev ρ x ≠ .error 0 := node0 (by rw [evL_len]; exact hg.1) (evL0 x.l hg.2.2)
end Go.Proofs.YthonejomogkjjaaGreatDoor.JEr

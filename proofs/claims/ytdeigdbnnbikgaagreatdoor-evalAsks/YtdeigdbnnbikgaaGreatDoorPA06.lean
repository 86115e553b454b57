import Derived.LoopN
import Derived.LoopTactic
import Derived.Test.YtdeigdbnnbikgaaGreatDoorPA03
set_option linter.unusedVariables false
set_option maxRecDepth 20000
set_option maxHeartbeats 3200000
namespace Go.Proofs.YtdeigdbnnbikgaaGreatDoor.Eq
open Go.RowKit Base
def eqB (a b : ByteArray) : Bool := a.toList == b.toList
def eqN : List ByteArray → List ByteArray → Bool
 | [], [] => true
 | a :: xs, b :: bs => eqB a b && eqN xs bs
 | _, _ => false
def sameL : List C → List C → Bool
 | [], [] => true
 | .mk k b i s n l :: cs, .mk k' b' i' s' n' l' :: ds => (decide (k = k') && (if k = 2 then b == b' else if k = 3 then i == i' else if k = 4 then eqB s s' else if k = 5 then sameL l l' else if k = 6 then eqN n n' && sameL l l' else true)) && sameL cs ds
 | _, _ => false
def same : C → C → Bool
 | .mk k b i s n l, .mk k' b' i' s' n' l' => decide (k = k') && (if k = 2 then b == b' else if k = 3 then i == i' else if k = 4 then eqB s s' else if k = 5 then sameL l l' else if k = 6 then eqN n n' && sameL l l' else true)
theorem sameL_cons (c d : C) (cs ds : List C) : sameL (c :: cs) (d :: ds) = (same c d && sameL cs ds) := by
 obtain ⟨k, b, i, s, n, l⟩ := c
 obtain ⟨k', b', i', s', n', l'⟩ := d
 rw [sameL, same]
theorem eqB_eq {a b : ByteArray} : eqB a b = true ↔ a = b := by
 unfold eqB
 rw [beq_iff_eq, ByteArray.toList_eq, ByteArray.toList_eq]
 constructor
 ·intro h
  apply ByteArray.ext
  exact Array.toList_inj.1 h
 ·rintro rfl; rfl
theorem eqN_len {L M : List ByteArray} (h : L.length ≠ M.length) : eqN L M = false := by
 induction L generalizing M with
 | nil => cases M with
  | nil => simp at h
  | cons b bs => rfl
 | cons a xs ih => cases M with
  | nil => rfl
  | cons b bs =>
   rw [eqN, ih (by simpa using h)]
   simp
theorem eqN_iff {L M : List ByteArray} (h : L.length = M.length) : eqN L M = true ↔ ∀ j (h1 : j < L.length) (h2 : j < M.length), eqB L[j] M[j] = true := by
 induction L generalizing M with
 | nil => cases M with
  | nil => simp [eqN]
  | cons b bs => simp at h
 | cons a xs ih => cases M with
  | nil => simp at h
  | cons b bs =>
   rw [eqN, Bool.and_eq_true, ih (by simpa using h)]
   constructor
   ·rintro ⟨h1, h2⟩ j hj hj'
    cases j with
    | zero => exact h1
    | succ j => exact h2 j (by simpa using hj) (by simpa using hj')
   ·intro hh
    exact ⟨hh 0 (by simp) (by simp), fun j h1 h2 => hh (j + 1) (by simpa using h1) (by simpa using h2)⟩
theorem sameL_len {L M : List C} (h : L.length ≠ M.length) : sameL L M = false := by
 induction L generalizing M with
 | nil => cases M with
  | nil => simp at h
  | cons b bs => simp [sameL]
 | cons a xs ih => cases M with
  | nil => simp [sameL]
  | cons b bs =>
   rw [sameL_cons, ih (by simpa using h)]
   simp
theorem sameL_iff {L M : List C} (h : L.length = M.length) : sameL L M = true ↔ ∀ j (h1 : j < L.length) (h2 : j < M.length), same L[j] M[j] = true := by
 induction L generalizing M with
 | nil => cases M with
  | nil => simp [sameL]
  | cons b bs => simp at h
 | cons a xs ih => cases M with
  | nil => simp at h
  | cons b bs =>
   rw [sameL_cons, Bool.and_eq_true, ih (by simpa using h)]
   constructor
   ·rintro ⟨h1, h2⟩ j hj hj'
    cases j with
    | zero => exact h1
    | succ j => exact h2 j (by simpa using hj) (by simpa using hj')
   ·intro hh
    exact ⟨hh 0 (by simp) (by simp), fun j h1 h2 => hh (j + 1) (by simpa using h1) (by simpa using h2)⟩
theorem false_of {b : Bool} (h : ¬ b = true) : b = false := by simpa using h
theorem eqT_c (u v : Value) (L M : List ByteArray) (w : World) (hu : Tx false All w u L) (hv : Tx false All w v M) :
  Calls Tryz.prog 194 #[u, v] w fun e w' => e = .returned (.bool (eqN L M)) ∧ Below w.heap.size w w' := by
 obtain ⟨a, cap, rfl, hlc, hm, hlen, hsz, hnil, hN⟩ := hu.out
 obtain ⟨a', cap', rfl, hlc', hm', hlen', hsz', hnil', hN'⟩ := hv.out
 clear hu hv hsz hsz'
 by_cases hne : L.length = M.length
 ·have HI := eqN_iff hne
  generalize eqN L M = R at *
  have hne' : ((L.length : Int) != (M.length : Int)) = false := by simp; omega
  have HH : Hid (R = true ↔ ∀ j (h1 : j < L.length) (h2 : j < M.length), eqB L[j] M[j] = true) := HI
  clear HI
  go_enter Tryz.func194, Tryz.ntmps194
  go_wp2_with fail
  go_loopw [13] (fun i wr => ∃ q : Nat, q ≤ L.length ∧ i = .int .i64 q ∧ (∀ j (h1 : j < L.length) (h2 : j < M.length), j < q → eqB L[j] M[j] = true) ∧ Below w.heap.size w wr) (fun i _ => L.length - (intOf i).toNat)
  case atStart => exact ⟨0, by omega, rfl, fun j _ _ h => by omega, Below.refl _ _⟩
  case round =>
   obtain ⟨q, hq, rfl, hall, hb⟩ := hrel
   by_cases hlt : q < L.length
   ·have hlt2 : q < M.length := by omega
    obtain ⟨g, o, rfl, -, hc⟩ := name_at hN hlt
    obtain ⟨g', o', rfl, -, hc'⟩ := name_at hN' hlt2
    have hc := below_cell hc hb
    have hc' := below_cell hc' hb
    have hb' := hb.drew
    have HA : Hid (∀ j (h1 : j < L.length) (h2 : j < M.length), j < q → eqB L[j] M[j] = true) := hall
    obtain ⟨x, hx⟩ : ∃ x, L[q] = x := ⟨_, rfl⟩
    obtain ⟨y, hy⟩ : ∃ y, M[q] = y := ⟨_, rfl⟩
    have HX : Hid (L[q] = x) := hx
    have HY : Hid (M[q] = y) := hy
    rw [hx] at hc
    rw [hy] at hc'
    clear hN hN' hall hx hy
    cases he : (x.toList == y.toList) with
    | true =>
     have he' : eqB x y = true := he
     go_wp2_with fail
     go_region
     all_goals go_wp2_with fail
     all_goals go_roundw
     all_goals first
      | (case rel =>
        refine ⟨q + 1, by omega, by go_num, fun j h1 h2 hj => ?_, hb'⟩
        by_cases e : j = q
        ·subst e
         rw [HX.out, HY.out]
         exact he'
        ·exact HA.out j h1 h2 (by omega))
      | (case measure => simp only [intOf]; omega)
    | false =>
     have he' : ¬ eqB x y = true := by unfold eqB; rw [he]; simp
     have hR : R = false := false_of fun h => he' (by have := HH.out.1 h q hlt hlt2; rwa [HX.out, HY.out] at this)
     subst hR
     go_wp2_with fail
     go_region
     all_goals go_wp2_with fail
     all_goals go_ret
     all_goals exact ⟨rfl, hb'⟩
   ·have hlt' : decide ((q : Int) < (L.length : Int)) = false := by simp; omega
    have hR : R = true := HH.out.2 fun j h1 h2 => hall j h1 h2 (by omega)
    subst hR
    clear hall
    go_wp2_with fail
    go_ret
    exact ⟨rfl, hb⟩
 ·rw [eqN_len hne]
  have hne' : ((L.length : Int) != (M.length : Int)) = true := by simp; omega
  go_enter Tryz.func194, Tryz.ntmps194
  go_wp2_with fail
  go_ret
  exact ⟨rfl, Below.refl _ _⟩
end Go.Proofs.YtdeigdbnnbikgaaGreatDoor.Eq
namespace Go.Proofs.YtdeigdbnnbikgaaGreatDoor.Same
open Go.RowKit Base Go.Proofs.YtdeigdbnnbikgaaGreatDoor.Eq
def SameIs (m : Nat) : Prop := ∀ (u v : Value) (c d : C) (w : World), In false All w m u c → In false All w m v d →
  Calls Tryz.prog 155 #[u, v] w fun e w' => e = .returned (.bool (same c d)) ∧ Below w.heap.size w w'
theorem eqF_of (m : Nat) (hm : SameIs m) (u v : Value) (L M : List C) (w : World) (hu : InL false All w m u L) (hv : InL false All w m v M) :
  Calls Tryz.prog 193 #[u, v, .func (.func 155) #[] #[]] w fun e w' => e = .returned (.bool (sameL L M)) ∧ Below w.heap.size w w' := by
 obtain ⟨a, cap, rfl, hlc, hcm, hlen, hnil, hN⟩ := hu.out
 obtain ⟨a', cap', rfl, hlc', hm', hlen', hnil', hN'⟩ := hv.out
 clear hu hv
 by_cases hne : L.length = M.length
 ·have HI := sameL_iff hne
  generalize sameL L M = R at *
  have hne' : ((L.length : Int) != (M.length : Int)) = false := by simp; omega
  have HH : Hid (R = true ↔ ∀ j (h1 : j < L.length) (h2 : j < M.length), same L[j] M[j] = true) := HI
  have hle1 : L.length ≤ M.length := by omega
  have hle2 : M.length ≤ L.length := by omega
  clear HI hne
  go_enter Tryz.func193, Tryz.ntmps193
  go_wp2_with fail
  go_loopw [17] (fun i wr => ∃ q : Nat, q ≤ L.length ∧ i = .int .i64 q ∧ (∀ j (h1 : j < L.length) (h2 : j < M.length), j < q → same L[j] M[j] = true) ∧ Below w.heap.size w wr) (fun i _ => L.length - (intOf i).toNat)
  case atStart => exact ⟨0, by omega, rfl, fun j _ _ h => by omega, Below.refl _ _⟩
  case round =>
   obtain ⟨q, hq, rfl, hall, hb⟩ := hrel
   by_cases hlt : q < L.length
   ·have hlt2 : q < M.length := by omega
    obtain ⟨g, o, x, rfl, -, hx, hin⟩ := elem_at hN hlt
    obtain ⟨g', o', y, rfl, -, hy, hin'⟩ := elem_at hN' hlt2
    have hx := six_below hx hb
    have hy := six_below hy hb
    obtain ⟨x0, x1, x2, x3, x4, x5, rfl, d0, d1, d2, d3, d4, d5⟩ := hx
    obtain ⟨y0, y1, y2, y3, y4, y5, rfl, e0, e1, e2, e3, e4, e5⟩ := hy
    obtain ⟨a1, n1, c1, a2, n2, c2, rfl, rfl, rfl, rfl, rfl, rfl⟩ := hin.kinds
    obtain ⟨p1, q1, r1, p2, q2, r2, rfl, rfl, rfl, rfl, rfl, rfl⟩ := hin'.kinds
    generalize L[q].k = kk, L[q].b = bb, L[q].i = ii, L[q].s = ss, M[q].k = kk', M[q].b = bb', M[q].i = ii', M[q].s = ss' at *
    have hg' : g' < wr.heap.size := cell_lt e0
    have hb2 : Below wr.heap.size wr ((wr.alloc (.cells #[.int .i64 kk, .bool bb, .int .i64 ii, .string ss, .slice a1 n1 c1, .slice a2 n2 c2] 32)).alloc (.cells #[.int .i64 kk', .bool bb', .int .i64 ii', .string ss', .slice p1 q1 r1, .slice p2 q2 r2] 32)) := ((Below.refl _ wr).alloc (Nat.le_refl _) _).alloc (by simp) _
    have c20 := hm _ _ L[q] M[q] _ ((hin.below hb).below hb2) ((hin'.below hb).below hb2)
    have HA : Hid (∀ j (h1 : j < L.length) (h2 : j < M.length), j < q → same L[j] M[j] = true) := hall
    obtain ⟨x, hx⟩ : ∃ x, same L[q] M[q] = x := ⟨_, rfl⟩
    have HX : Hid (same L[q] M[q] = x) := hx
    rw [hx] at c20
    clear hN hN' hall hx hin hin' hm
    go_wp2_with fail
    refine c20.mono ?_
    rintro e w1 ⟨rfl, b1⟩
    have hb3 := nx (nx hb hb2) b1
    clear hb2 b1 c20
    cases x with
    | true =>
     go_wp2_with fail
     go_roundw
     case rel =>
      refine ⟨q + 1, by omega, by go_num, fun j h1 h2 hj => ?_, hb3⟩
      by_cases e : j = q
      ·subst e
       exact HX.out
      ·exact HA.out j h1 h2 (by omega)
     case measure => simp only [intOf]; omega
    | false =>
     have hR : R = false := false_of fun h => by
      have := HH.out.1 h q hlt hlt2
      rw [HX.out] at this
      cases this
     subst hR
     go_wp2_with fail
     go_ret
     exact ⟨rfl, hb3⟩
   ·have hlt' : decide ((q : Int) < (L.length : Int)) = false := by simp; omega
    have hR : R = true := HH.out.2 fun j h1 h2 => hall j h1 h2 (by omega)
    subst hR
    clear hall
    go_wp2_with fail
    go_ret
    exact ⟨rfl, hb⟩
 ·rw [sameL_len hne]
  have hne' : ((L.length : Int) != (M.length : Int)) = true := by simp; omega
  go_enter Tryz.func193, Tryz.ntmps193
  go_wp2_with fail
  go_ret
  exact ⟨rfl, Below.refl _ _⟩
theorem same_of (m : Nat) (hm : ∀ (u v : Value) (L M : List C) (w : World), InL false All w m u L → InL false All w m v M →
   Calls Tryz.prog 193 #[u, v, .func (.func 155) #[] #[]] w fun e w' => e = .returned (.bool (sameL L M)) ∧ Below w.heap.size w w') : SameIs (m + 1) := by
 intro u v c d w hu hv
 obtain ⟨k, b, i, s, n, l⟩ := c
 obtain ⟨k', b', i', s', n', l'⟩ := d
 rw [in_iff] at hu hv
 obtain ⟨nv, lv, rfl, -, -, -, hn, hl⟩ := hu
 obtain ⟨nv', lv', rfl, -, -, -, hn', hl'⟩ := hv
 obtain ⟨W0, hW0⟩ : ∃ W0, (w.alloc (.cells #[.int .i64 k, .bool b, .int .i64 i, .string s, nv, lv] 32)).alloc (.cells #[.int .i64 k', .bool b', .int .i64 i', .string s', nv', lv'] 32) = W0 := ⟨_, rfl⟩
 have hb0 : Below w.heap.size w W0 := by rw [← hW0]; exact ((Below.refl _ w).alloc (Nat.le_refl _) _).alloc (by simp) _
 have hsz0 : W0.heap.size = w.heap.size + 2 := by rw [← hW0]; simp
 have hx0 : W0.heap[w.heap.size]? = some (.cells #[.int .i64 k, .bool b, .int .i64 i, .string s, nv, lv] 32) := by
  rw [← hW0, Below.heap_alloc _ _ _ (by simp), heap_alloc_new]
 have hx1 : W0.heap[w.heap.size + 1]? = some (.cells #[.int .i64 k', .bool b', .int .i64 i', .string s', nv', lv'] 32) := by
  have := heap_alloc_new (w.alloc (.cells #[.int .i64 k, .bool b, .int .i64 i, .string s, nv, lv] 32)) (.cells #[.int .i64 k', .bool b', .int .i64 i', .string s', nv', lv'] 32)
  rwa [hW0, World.size_alloc] at this
 obtain ⟨d0, d1, d2, d3, d4, d5⟩ := six_box hx0
 obtain ⟨e0, e1, e2, e3, e4, e5⟩ := six_box hx1
 by_cases hk : ¬ k = k'
 ·have hk' : (k != k') = true := by simp [hk]
  have e : same (.mk k b i s n l) (.mk k' b' i' s' n' l') = false := by simp [same, hk]
  rw [e]
  clear e
  go_enter Tryz.func155, Tryz.ntmps155
  go_wp2_with fail
  go_ret
  exact ⟨rfl, hb0⟩
 have hk : k = k' := Decidable.of_not_not hk
 subst hk
 by_cases h2 : k = 2
 ·subst h2
  have e : same (.mk 2 b i s n l) (.mk 2 b' i' s' n' l') = (b == b') := by simp [same]
  rw [e]
  clear e
  go_enter Tryz.func155, Tryz.ntmps155
  go_wp2_with fail
  go_ret
  exact ⟨rfl, hb0⟩
 by_cases h3 : k = 3
 ·subst h3
  have e : same (.mk 3 b i s n l) (.mk 3 b' i' s' n' l') = (i == i') := by simp [same]
  rw [e]
  clear e
  go_enter Tryz.func155, Tryz.ntmps155
  go_wp2_with fail
  go_ret
  exact ⟨rfl, hb0⟩
 by_cases h4 : k = 4
 ·subst h4
  have e : same (.mk 4 b i s n l) (.mk 4 b' i' s' n' l') = (s.toList == s'.toList) := by simp [same, eqB]
  rw [e]
  clear e
  go_enter Tryz.func155, Tryz.ntmps155
  go_wp2_with fail
  go_ret
  exact ⟨rfl, hb0⟩
 have h2' : (k == 2) = false := by simp [h2]
 have h3' : (k == 3) = false := by simp [h3]
 have h4' : (k == 4) = false := by simp [h4]
 by_cases h5 : k = 5
 ·subst h5
  have e : same (.mk 5 b i s n l) (.mk 5 b' i' s' n' l') = sameL l l' := by simp [same]
  rw [e]
  have c42 := hm lv lv' l l' W0 (hl.below hb0) (hl'.below hb0)
  generalize sameL l l' = R at *
  clear e hm hx0 hx1
  go_enter Tryz.func155, Tryz.ntmps155
  go_wp2_with (first | (go_at_call 193; refine c42.mono ?_; rintro e w1 ⟨rfl, b1⟩))
  go_ret
  exact ⟨rfl, nx hb0 b1⟩
 have h5' : (k == 5) = false := by simp [h5]
 by_cases h6 : k = 6
 ·subst h6
  have e : same (.mk 6 b i s n l) (.mk 6 b' i' s' n' l') = (eqN n n' && sameL l l') := by simp [same]
  rw [e]
  have c43 := eqT_c nv nv' n n' W0 (hn.below hb0) (hn'.below hb0)
  generalize eqN n n' = T at *
  have hm := fun w h1 h2 => hm lv lv' l l' w h1 h2
  generalize sameL l l' = R at *
  clear e
  go_enter Tryz.func155, Tryz.ntmps155
  go_wp2_with fail
  refine c43.mono ?_
  rintro e w1 ⟨rfl, b1⟩
  have k5 := (six_box ((b1.block w.heap.size (by omega)).trans hx0)).2.2.2.2.2
  have j5 := (six_box ((b1.block (w.heap.size + 1) (by omega)).trans hx1)).2.2.2.2.2
  have c42 := hm w1 ((hl.below hb0).below b1) ((hl'.below hb0).below b1)
  clear c43 hx0 hx1 hW0 hm
  cases T with
  | false =>
   go_wp2_with fail
   go_ret
   exact ⟨rfl, nx hb0 b1⟩
  | true =>
   go_wp2_with (first | (go_at_call 193; refine c42.mono ?_; rintro e w2 ⟨rfl, b2⟩))
   go_ret
   exact ⟨by simp, nx (nx hb0 b1) b2⟩
 have h6' : (k == 6) = false := by simp [h6]
 have e : same (.mk k b i s n l) (.mk k b' i' s' n' l') = true := by simp [same, h2, h3, h4, h5, h6]
 rw [e]
 clear e
 go_enter Tryz.func155, Tryz.ntmps155
 go_wp2_with fail
 go_ret
 exact ⟨rfl, hb0⟩
theorem sames : ∀ m, SameIs m := by
 intro m
 induction m with
 | zero => intro u v c d w h; rw [In] at h; exact h.elim
 | succ m ih => exact same_of m (eqF_of m ih)
theorem same_c {m m' : Nat} {u v : Value} {c d : C} {w : World} (hu : In false All w m u c) (hv : In false All w m' v d) :
  Calls Tryz.prog 155 #[u, v] w fun e w' => e = .returned (.bool (same c d)) ∧ Below w.heap.size w w' :=
 sames (max m m') u v c d w (hu.weak (fun _ h => h) false id _ (Nat.le_max_left _ _)) (hv.weak (fun _ h => h) false id _ (Nat.le_max_right _ _))
end Go.Proofs.YtdeigdbnnbikgaaGreatDoor.Same
namespace Go.Proofs.YtdeigdbnnbikgaaGreatDoor.Shallow
open Go.RowKit Base
def depL : List C → Nat
 | [] => 0
 | .mk _ _ _ _ _ l :: cs => max (depL l + 1) (depL cs)
def dep : C → Nat
 | .mk _ _ _ _ _ l => depL l + 1
theorem depL_cons (c : C) (cs : List C) : depL (c :: cs) = max (dep c) (depL cs) := by
 obtain ⟨k, b, i, s, n, l⟩ := c
 rw [depL, dep]
theorem depL_le {l : List C} {q : Nat} : depL l ≤ q ↔ ∀ j (h : j < l.length), dep l[j] ≤ q := by
 induction l with
 | nil => simp [depL]
 | cons c cs ih =>
  rw [depL_cons, Nat.max_le, ih]
  constructor
  ·rintro ⟨h1, h2⟩ j hj
   cases j with
   | zero => exact h1
   | succ j => exact h2 j (by simpa using hj)
  ·intro h
   exact ⟨h 0 (by simp), fun j hj => h (j + 1) (by simpa using hj)⟩
theorem value_c : ∀ (m : Nat) (v : Value) (c : C) (left : Nat) (w : World), left ≤ 4096 → In false All w m v c →
  Calls Tryz.prog 61 #[v, .int .i64 left] w fun r w' => r = .returned (.bool (decide (dep c ≤ left))) ∧ Below w.heap.size w w' := by
 intro m
 induction m with
 | zero => intro v c left w _ h; rw [In] at h; exact h.elim
 | succ m ih =>
  intro v c left w hle h
  obtain ⟨k, b, i, s, n, l⟩ := c
  rw [in_iff] at h
  obtain ⟨nv, lv, rfl, hk, hi, hs, hn, hL0⟩ := h
  obtain ⟨a, cap, rfl, hl, hcap, hlen, ha, hL⟩ := hL0.out
  clear hL0
  have ih' := Hid.out ih
  have H : Hid (∀ (v : Value) (c : C) (left : Nat) (w : World), left ≤ 4096 → In false All w m v c →
   Calls Tryz.prog 61 #[v, .int .i64 left] w fun r w' => r = .returned (.bool (decide (dep c ≤ left))) ∧ Below w.heap.size w w') := ih
  clear ih ih'
  by_cases h0 : left = 0
  ·subst h0
   have hd : decide (dep (.mk k b i s n l) ≤ 0) = false := by simp [dep]
   rw [hd]
   clear hd
   go_enter Tryz.func61, Tryz.ntmps61
   go_wp2_with fail
   go_ret
   exact ⟨rfl, (Below.refl _ _).alloc (Nat.le_refl _) _⟩
  ·have h0' : ((left : Int) == 0) = false := by simp; omega
   have hd : decide (dep (.mk k b i s n l) ≤ left) = decide (depL l ≤ left - 1) := by simp only [dep]; congr 1; exact propext ⟨fun _ => by omega, fun _ => by omega⟩
   rw [hd]
   clear hd
   go_enter Tryz.func61, Tryz.ntmps61
   go_wp2_with fail
   go_loopw [5] (fun i' wr => ∃ q : Nat, q ≤ l.length ∧ i' = .int .i64 q ∧ (∀ j (h : j < l.length), j < q → dep l[j] ≤ left - 1) ∧
    Below (w.heap.size + 1) (w.alloc (.cells #[.int .i64 k, .bool b, .int .i64 i, .string s, nv, .slice a l.length cap] 32)) wr) (fun i' _ => l.length - (intOf i').toNat)
   case atStart => exact ⟨0, by omega, rfl, fun j _ h => by omega, Below.refl _ _⟩
   case round =>
    obtain ⟨q, hq, rfl, hall, hb⟩ := hrel
    obtain ⟨c0, c1, c2, c3, c4, c5⟩ := six_box (box_at hb)
    by_cases hlt : q < l.length
    ·obtain ⟨g, o, u, rfl, -, hu, hin⟩ := elem_at hL hlt
     have hu := six_below hu (below_box hb)
     have hin := hin.below (below_box hb)
     obtain ⟨v0, v1, v2, v3, v4, v5, rfl, d0, d1, d2, d3, d4, d5⟩ := hu
     go_wp2_with fail
     rw [show (left : Int) - 1 = ((left - 1 : Nat) : Int) by omega]
     refine (H.out _ _ (left - 1) _ (by omega) hin).mono ?_
     rintro e w2 ⟨rfl, b2⟩
     cases hd : decide (dep l[q] ≤ left - 1) with
     | true =>
      go_wp2_with fail
      go_roundw
      case rel =>
       refine ⟨q + 1, by omega, by go_num, fun j hj hjq => ?_, nxB hb (by simp) b2⟩
       by_cases e : j = q
       ·subst e
        exact of_decide_eq_true hd
       ·exact hall j hj (by omega)
      case measure => simp only [intOf]; omega
     | false =>
      go_wp2_with fail
      go_ret
      refine ⟨?_, nx (below_box hb) b2⟩
      have h1 : ¬ dep l[q] ≤ left - 1 := of_decide_eq_false hd
      have : ¬ depL l ≤ left - 1 := fun h => h1 (depL_le.1 h q hlt)
      simp [this]
    ·have hlt' : decide ((q : Int) < (l.length : Int)) = false := by simp; omega
     go_wp2_with fail
     go_ret
     refine ⟨?_, below_box hb⟩
     have : depL l ≤ left - 1 := depL_le.2 fun j hj => hall j hj (by omega)
     simp [this]
theorem shallow_c (m : Nat) (v : Value) (c : C) (w : World) (h : In false All w m v c) :
  Calls Tryz.prog 25 #[v] w fun r w' => r = .returned (.bool (decide (dep c ≤ 4096))) ∧ Below w.heap.size w w' := by
 obtain ⟨v0, v1, v2, v3, v4, v5, rfl, -⟩ := h.six
 have hb : Below w.heap.size w (w.alloc (.cells #[v0, v1, v2, v3, v4, v5] 32)) := (Below.refl _ w).alloc (Nat.le_refl _) _
 have hv := value_c m _ c 4096 (w.alloc (.cells #[v0, v1, v2, v3, v4, v5] 32)) (by omega) (h.below hb)
 generalize dep c = d at *
 clear h
 go_enter Tryz.func25, Tryz.ntmps25
 go_wp2_with (first | (go_at_call 61; refine hv.mono ?_; rintro e w2 ⟨rfl, b2⟩))
 go_ret
 exact ⟨rfl, nx hb b2⟩
end Go.Proofs.YtdeigdbnnbikgaaGreatDoor.Shallow
namespace Go.Proofs.YtdeigdbnnbikgaaGreatDoor.Lend
open Go.RowKit Base
theorem copyT_c (v : Value) (L : List ByteArray) (w : World) (h : Tx false All w v L) :
  Calls Tryz.prog 129 #[v] w fun e w' => ∃ u, e = .returned u ∧ u ≠ .slice none 0 0 ∧ OwnT w' w.heap.size u L ∧ Below w.heap.size w w' := by
 obtain ⟨i0, hi, hz0, hz1, hz2⟩ := info_parts info9
 obtain ⟨a, cap, rfl, hlc, hm, hlen, hsz, hnil, hN⟩ := h.out
 have ho : OwnT (w.alloc (.cells #[] 9)) w.heap.size (.slice (some ⟨w.heap.size, 0, none⟩) 0 0) [] := by
  refine ⟨rfl, .inr ⟨w.heap.size, 0, #[], rfl, Nat.le_refl _, heap_alloc_new w _, Nat.le_refl _, by simp [maxLen], rfl, rfl⟩⟩
 have hb : Below w.heap.size w (w.alloc (.cells #[] 9)) := (Below.refl _ w).alloc (Nat.le_refl _) _
 cases a with
 | none =>
  obtain rfl := hnil rfl
  obtain rfl : L = [] := List.eq_nil_of_length_eq_zero (by omega)
  go_enter Tryz.func129, Tryz.ntmps129
  go_wp2_with fail
  go_ret
  exact ⟨_, rfl, (fun h => by cases h), ho, hb⟩
 | some x =>
  obtain ⟨g, o, sp⟩ := x
  have hnews : ∀ j u, (L.map Value.string)[j]? = some u → (w.alloc (.cells #[] 9)).cell? ((⟨g, o, sp⟩ : Addr).add j) = some u := by
   intro j u hj
   have hl : j < L.length := by
    have := (List.getElem?_eq_some_iff.1 hj).1
    simpa using this
   obtain ⟨g', o', e, -, hc⟩ := name_at hN hl
   cases e
   rw [add_none]
   have hj' : u = .string L[j] := by simpa [hl] using hj.symm
   rw [hj']
   exact below_cell hc hb
  clear hN h
  go_enter Tryz.func129, Tryz.ntmps129
  go_wp2_with (first
   | (at_builtin; refine wpList_append_own _ rfl _ _ 29 rfl w.heap.size 9 i0 (.string ⟨#[]⟩) 1 16 Tryz.underlying29 hi hz0 hz1 hz2 rfl (by decide) _ _ _ rfl ho ⟨g, o, sp⟩ L.length cap (L.map Value.string) rfl (by simp) hnews (one_texts L) (by unfold maxLen; simp; omega) (by simp; omega) (by simp) ?_))
  intro v' w2 hown' hgrow hnn
  have hb3 := hb.grown hgrow (by simp) (fun k hk => by cases hk; exact Nat.le_refl _)
  have ho2 : OwnT w2 w.heap.size v' L := by
   unfold OwnT
   simpa using hown'
  have hn2 : v' ≠ .slice none 0 0 := hnn
  clear hown' hgrow ho hb hnews hnn
  go_wp2_with fail
  go_ret
  exact ⟨_, rfl, hn2, ho2, hb3⟩
end Go.Proofs.YtdeigdbnnbikgaaGreatDoor.Lend
namespace Go.Proofs.YtdeigdbnnbikgaaGreatDoor.CopyV
open Go.RowKit Base Lend
def CopiesV (m : Nat) : Prop := ∀ (v : Value) (c : C) (w : World), In false All w m v c →
  Calls Tryz.prog 90 #[v] w fun e w' => ∃ u, e = .returned u ∧ In false (Rg w.heap.size w'.heap.size) w' m u c ∧ Below w.heap.size w w'
theorem copyTx_c (v : Value) (L : List ByteArray) (w : World) (h : Tx false All w v L) :
  Calls Tryz.prog 129 #[v] w fun e w' => ∃ u, e = .returned u ∧ Tx false (Rg w.heap.size w'.heap.size) w' u L ∧ Below w.heap.size w w' := by
 refine (copyT_c v L w h).mono ?_
 rintro e w' ⟨u, rfl, hne, ho, hb⟩
 obtain ⟨a, cap, rfl, hlc, hm, hlen, hsz, hnil, hN⟩ := h.out
 rcases ho.2 with ⟨h0, _⟩ | ⟨g, cap2, cur, rfl, _, _, hn2, hm2, _⟩
 ·exact absurd h0 hne
 ·exact ⟨_, rfl, ⟨_, cap2, rfl, hn2, hm2, hlen, hsz, (fun h => by cases h), .inr ⟨g, 0, rfl, ⟨(ownT_lt ho).1, (ownT_lt ho).2⟩, ownT_cell ho, fun h => by cases h⟩⟩, hb⟩
theorem copyVs_of (m : Nat) (hm : CopiesV m) (v : Value) (l : List C) (w : World) (h : InL false All w m v l) :
  Calls Tryz.prog 130 #[v] w fun e w' => ∃ u, e = .returned u ∧ InL false (Rg w.heap.size w'.heap.size) w' m u l ∧ Below w.heap.size w w' := by
 obtain ⟨i0, hi, hz0, hz1, hz2⟩ := info_parts info25
 obtain ⟨a, cap, rfl, hlc, hcm, hlen, hnil, hL⟩ := h.out
 clear h
 go_enter Tryz.func130, Tryz.ntmps130
 go_wp2_with fail
 go_loopw [3, 4] (fun out i wr => ∃ (q : Nat) (us : List Value), q ≤ l.length ∧ us.length = q ∧ i = .int .i64 q ∧ OwnV wr w.heap.size out us ∧
   (∀ j (h : j < us.length) (h' : j < l.length), In false (El w.heap.size wr.heap.size out) wr m us[j] l[j]) ∧ Below w.heap.size w wr) (fun _ i _ => l.length - (intOf i).toNat)
 case atStart => exact ⟨0, [], by omega, rfl, rfl, ⟨World.ownsRow_nil _ _ _ _, fun x hx => by cases hx⟩, fun j h => by simp at h, Below.refl _ _⟩
 case round =>
  obtain ⟨q, us, hq, hus, rfl, hown, hels, hb⟩ := hrel
  have hsz := hb.size
  by_cases hlt : q < l.length
  ·obtain ⟨g, o, u, rfl, -, hu, hin⟩ := elem_at hL hlt
   have hu := six_below hu hb
   have hin := hin.below hb
   obtain ⟨v0, v1, v2, v3, v4, v5, rfl, d0, d1, d2, d3, d4, d5⟩ := hu
   have c10 := hm _ _ wr hin
   have HH : Hid (∀ j (h : j < us.length) (h' : j < l.length), In false (El w.heap.size wr.heap.size u3) wr m us[j] l[j]) := hels
   have Hus : Hid (us.length = q) := hus
   have Hown : Hid (OwnV wr w.heap.size u3 us) := hown
   have hrow := hown.1
   have hlen2 : us.length = q := hus
   clear hels hin hus hown
   go_wp2_with (first
    | (go_at_call 90; refine c10.mono ?_; rintro e w1 ⟨u, rfl, hin1, b1⟩; obtain ⟨x0, x1, x2, x3, x4, x5, rfl, hone⟩ := hin1.six; have hrow1 := World.ownsRow.alloc (own_below hrow b1) (.cells #[x0, x1, x2, x3, x4, x5] 32); have hs1 := b1.size)
    | (at_builtin; refine wpList_append_own_at _ rfl _ _ 30 rfl w.heap.size 32 i0 (.agg #[.int .i64 0, .bool false, .int .i64 0, .string ⟨#[]⟩, .slice none 0 0, .slice none 0 0]) 6 88 Tryz.underlying30 hi hz0 hz1 hz2 rfl (by decide) _ _ _ rfl hrow1 ⟨w1.heap.size, 0, none⟩ 1 1 [x0, x1, x2, x3, x4, x5] rfl rfl (new_cells w1 _ 32) hone (by unfold maxLen; omega) (by omega) (by simp; omega) ?_))
   intro v' w2 hown' hgrow _ hat
   have hels2 := els_step HH.out Hus.out hlt Hown.out b1 hin1 hsz _ hgrow hat
   have hb3 := ((hb.trans (b1.mono hsz)).alloc (by omega) (.cells #[x0, x1, x2, x3, x4, x5] 32)).grown hgrow (by simp; omega) (fun k hk => (World.ownsRow.lt hrow k hk).1)
   have ho2 : OwnV w2 w.heap.size v' (us ++ [.agg #[x0, x1, x2, x3, x4, x5]]) := by
    refine ⟨?_, sixes_snoc Hown.out.2 ⟨_, _, _, _, _, _, rfl, hone⟩⟩
    rw [flat_append, List.length_append, hlen2]
    exact hown'
   have hlen3 : (us ++ [Value.agg #[x0, x1, x2, x3, x4, x5]]).length = q + 1 := by simp [hlen2]
   obtain ⟨us2, hus2⟩ : ∃ us2, us ++ [Value.agg #[x0, x1, x2, x3, x4, x5]] = us2 := ⟨_, rfl⟩
   rw [hus2] at hels2 ho2 hlen3
   have H2 : Hid (∀ j (h : j < us2.length) (h' : j < l.length), In false (El w.heap.size w2.heap.size v') w2 m us2[j] l[j]) := fun j h h' => hels2 j h h'
   clear hown' hgrow hat hrow hrow1 Hown HH Hus hels2 hus2 hin1 hone c10
   go_wp2_with fail
   go_roundw
   case rel => exact ⟨q + 1, us2, by omega, hlen3, by go_num, ho2, H2.out, hb3⟩
   case measure => simp only [intOf]; omega
  ·obtain rfl : q = l.length := by omega
   have hnlt : decide ((l.length : Int) < (l.length : Int)) = false := by simp
   have HH : Hid (∀ j (h : j < us.length) (h' : j < l.length), In false (El w.heap.size wr.heap.size u3) wr m us[j] l[j]) := hels
   have Hown : Hid (OwnV wr w.heap.size u3 us) := hown
   have Hus : Hid (us.length = l.length) := hus
   clear hels hus hown
   go_wp2_with fail
   go_ret
   have hus := Hus.out
   have ho2 := Hown.out
   rcases ho2.1.2 with ⟨h0, h1⟩ | ⟨g, cap2, cur, rfl, _, _, hn2, hm2, _⟩
   ·have hl0 : l = [] := List.eq_nil_of_length_eq_zero (by omega)
    subst hl0
    exact ⟨_, rfl, ⟨none, 0, h0, by simp, by simp, by simp, fun _ => rfl, .inl ⟨rfl, rfl⟩⟩, hb⟩
   ·have ho3 := ho2
    rw [hus] at ho3
    refine ⟨_, rfl, ?_, hb⟩
    try rw [hus]
    refine ⟨some ⟨g, 0, none⟩, cap2, rfl, by omega, hm2, hlen, (fun h => by cases h), .inr ⟨g, 0, rfl, ⟨(ownV_lt ho2).1, (ownV_lt ho2).2⟩, ?_, fun h => by cases h⟩⟩
    intro j hj
    exact ⟨_, ownV_six ho2 j (by omega), (HH.out j (by omega) hj).weak (fun b hS => ⟨hS.1, hS.2.1⟩) false id m (Nat.le_refl _)⟩
theorem copyV_of (m : Nat) (hm : ∀ (v : Value) (l : List C) (w : World), InL false All w m v l →
   Calls Tryz.prog 130 #[v] w fun e w' => ∃ u, e = .returned u ∧ InL false (Rg w.heap.size w'.heap.size) w' m u l ∧ Below w.heap.size w w') : CopiesV (m + 1) := by
 intro v c w h
 obtain ⟨k, b, i, s, n, l⟩ := c
 rw [in_iff] at h
 obtain ⟨nv, lv, rfl, hk, hi, hs, hn, hl⟩ := h
 obtain ⟨W0, hW0⟩ : ∃ W0, (w.alloc (.cells #[.int .i64 k, .bool b, .int .i64 i, .string s, nv, lv] 32)).alloc (.cells #[.int .i64 0, .bool false, .int .i64 0, .string ⟨#[]⟩, .slice none 0 0, .slice none 0 0] 32) = W0 := ⟨_, rfl⟩
 have hb0 : Below w.heap.size w W0 := by rw [← hW0]; exact ((Below.refl _ w).alloc (Nat.le_refl _) _).alloc (by simp) _
 have hsz0 : W0.heap.size = w.heap.size + 2 := by rw [← hW0]; simp
 have hx0 : W0.heap[w.heap.size]? = some (.cells #[.int .i64 k, .bool b, .int .i64 i, .string s, nv, lv] 32) := by
  rw [← hW0, Below.heap_alloc _ _ _ (by simp), heap_alloc_new]
 have hx1 : W0.heap[w.heap.size + 1]? = some (.cells #[.int .i64 0, .bool false, .int .i64 0, .string ⟨#[]⟩, .slice none 0 0, .slice none 0 0] 32) := by
  have := heap_alloc_new (w.alloc (.cells #[.int .i64 k, .bool b, .int .i64 i, .string s, nv, lv] 32)) (.cells #[.int .i64 0, .bool false, .int .i64 0, .string ⟨#[]⟩, .slice none 0 0, .slice none 0 0] 32)
  rwa [hW0, World.size_alloc] at this
 have c34 := copyTx_c nv n W0 (hn.below hb0)
 obtain ⟨-, -, -, -, e4, -⟩ := six_box hx0
 go_enter Tryz.func90, Tryz.ntmps90
 go_wp2_with fail
 refine c34.mono ?_
 rintro e w1 ⟨nu, rfl, ht1, b1⟩
 have hy0 := (b1.block w.heap.size (by omega)).trans hx0
 have hy1 := (b1.block (w.heap.size + 1) (by omega)).trans hx1
 clear c34 hx0 hx1 hW0
 obtain ⟨d0, d1, d2, d3, d4, d5⟩ := six_box hy0
 have f4 := frozen_box hy0 4
 have hs1 := b1.size
 obtain ⟨W1, hW1⟩ : ∃ W1, w1.setCell ⟨w.heap.size, 4, none⟩ nu = W1 := ⟨_, rfl⟩
 have hz0 : W1.heap[w.heap.size]? = some (.cells #[.int .i64 k, .bool b, .int .i64 i, .string s, nu, lv] 32 (0, 0)) := by rw [← hW1, block_set hy0]; rfl
 have hz1 : W1.heap[w.heap.size + 1]? = some (.cells #[.int .i64 0, .bool false, .int .i64 0, .string ⟨#[]⟩, .slice none 0 0, .slice none 0 0] 32 (0, 0)) := by rw [← hW1, Below.heap_setCell _ _ _ _ (by simp)]; exact hy1
 have hsz1 : W1.heap.size = w1.heap.size := by rw [← hW1]; simp [World.setCell]
 have hb1 : Below w.heap.size w W1 := by rw [← hW1]; exact (hb0.trans (b1.mono (by omega))).setCell (p := ⟨w.heap.size, 4, none⟩) (Nat.le_refl _) _
 have ht2 : Tx false (Rg W0.heap.size w1.heap.size) W1 nu n := ht1.keep fun b hS hb => by rw [← hW1]; exact Below.heap_setCell _ _ _ _ (by have := hS.1; simp; omega)
 have c35 := hm lv l W1 (hl.below hb1)
 obtain ⟨an, cn, rfl, -⟩ := ht1.out
 clear ht1 hy0 hy1
 obtain ⟨-, -, -, -, -, k5⟩ := six_box hz0
 go_wp2_with fail
 refine c35.mono ?_
 rintro e w2 ⟨lu, rfl, hl2, b2⟩
 have hy0 := (b2.block w.heap.size (by omega)).trans hz0
 have hy1 := (b2.block (w.heap.size + 1) (by omega)).trans hz1
 clear c35 hz0 hz1 hW1 d0 d1 d2 d3 d4 d5 f4 k5
 have f5 := frozen_box hy0 5
 have hs2 := b2.size
 obtain ⟨d0, d1, d2, d3, d4, d5⟩ := six_box hy0
 obtain ⟨W2, hW2⟩ : ∃ W2, w2.setCell ⟨w.heap.size, 5, none⟩ lu = W2 := ⟨_, rfl⟩
 have hz0 : W2.heap[w.heap.size]? = some (.cells #[.int .i64 k, .bool b, .int .i64 i, .string s, .slice an n.length cn, lu] 32 (0, 0)) := by rw [← hW2, block_set hy0]; rfl
 have hz1 : W2.heap[w.heap.size + 1]? = some (.cells #[.int .i64 0, .bool false, .int .i64 0, .string ⟨#[]⟩, .slice none 0 0, .slice none 0 0] 32 (0, 0)) := by rw [← hW2, Below.heap_setCell _ _ _ _ (by simp)]; exact hy1
 have hsz2 : W2.heap.size = w2.heap.size := by rw [← hW2]; simp [World.setCell]
 have hb2 : Below w.heap.size w W2 := by rw [← hW2]; exact (hb1.trans (b2.mono (by omega))).setCell (p := ⟨w.heap.size, 5, none⟩) (Nat.le_refl _) _
 have ht3 : Tx false (Rg W0.heap.size w1.heap.size) W2 (.slice an n.length cn) n := ht2.keep fun b hS hb => by
  rw [← hW2, Below.heap_setCell _ _ _ _ (by have := hS.1; simp; omega)]
  exact b2.block b hb
 have hl3 : InL false (Rg W1.heap.size w2.heap.size) W2 m lu l := hl2.keep fun b hS hb => by rw [← hW2]; exact Below.heap_setCell _ _ _ _ (by have := hS.1; simp; omega)
 obtain ⟨al, cl, rfl, -⟩ := hl2.out
 clear hl2 ht2 hy0 hy1
 obtain ⟨k0, k1, k2, k3, k4, k5⟩ := six_box hz0
 obtain ⟨e0, e1, e2, e3, e4, e5⟩ := six_box hz1
 have g0 := frozen_box hz1 0
 have g1 := frozen_box hz1 1
 have g2 := frozen_box hz1 2
 have g3 := frozen_box hz1 3
 have g4 := frozen_box hz1 4
 have g5 := frozen_box hz1 5
 go_wp2_with fail
 obtain ⟨W3, hW3⟩ : ∃ W3, ((((((W2.setCell ⟨w.heap.size + 1, 0, none⟩ (.int .i64 k)).setCell ⟨w.heap.size + 1, 1, none⟩ (.bool b)).setCell ⟨w.heap.size + 1, 2, none⟩ (.int .i64 i)).setCell ⟨w.heap.size + 1, 3, none⟩ (.string s)).setCell
  ⟨w.heap.size + 1, 4, none⟩ (.slice an n.length cn)).setCell ⟨w.heap.size + 1, 5, none⟩ (.slice al l.length cl)) = W3 := ⟨_, rfl⟩
 rw [hW3]
 obtain ⟨q1, q2, q3, q4⟩ := set6 _ _ _ _ _ _ hz1 hW3
 refine bodyPost_ret (results_cell_row rfl _ W3 (w.heap.size + 1) 32 _ (0, 0) _ rfl q1 Tryz.underlying32 rfl (by kernel_rfl)) rfl ?_
 refine ⟨_, rfl, ?_, q4 _ _ (by omega) hb2⟩
 rw [in_iff]
 refine ⟨_, _, rfl, hk, hi, hs, ?_, ?_⟩
 ·exact (ht3.keep fun b hS hb => q2 b (by have := hS.1; omega)).weak (fun b hS => ⟨by have := hS.1; omega, by have := hS.2; omega⟩) false id
 ·exact (hl3.keep fun b hS hb => q2 b (by have := hS.1; omega)).weak (fun b hS => ⟨by have := hS.1; omega, by have := hS.2; omega⟩) false id m (Nat.le_refl _)
theorem copiesV : ∀ m, CopiesV m := by
 intro m
 induction m with
 | zero => intro v c w h; rw [In] at h; exact h.elim
 | succ m ih => exact copyV_of m (copyVs_of m ih)
theorem copyV_c (m : Nat) (v : Value) (c : C) (w : World) (h : In false All w m v c) :
  Calls Tryz.prog 90 #[v] w fun e w' => ∃ u, e = .returned u ∧ In false (Rg w.heap.size w'.heap.size) w' m u c ∧ Below w.heap.size w w' := copiesV m v c w h
end Go.Proofs.YtdeigdbnnbikgaaGreatDoor.CopyV
namespace Go.Proofs.YtdeigdbnnbikgaaGreatDoor.SameT
open Go.RowKit Base
theorem sameT_c (u v : Value) (L : List ByteArray) (w : World) (hu : Tx false All w u L) (hv : Tx false All w v L) :
  Calls Tryz.prog 23 #[u, v] w fun e w' => e = .returned (.bool true) ∧ Below w.heap.size w w' := by
 obtain ⟨a, cap, rfl, hlc, hm, hlen, hsz, hnil, hN⟩ := hu.out
 obtain ⟨a', cap', rfl, hlc', hm', hlen', hsz', hnil', hN'⟩ := hv.out
 clear hu hv hsz hsz' hlen'
 go_enter Tryz.func23, Tryz.ntmps23
 go_wp2_with fail
 go_loopw [5] (fun i wr => ∃ q : Nat, q ≤ L.length ∧ i = .int .i64 q ∧ Below w.heap.size w wr) (fun i _ => L.length - (intOf i).toNat)
 case atStart => exact ⟨0, by omega, rfl, Below.refl _ _⟩
 case round =>
  obtain ⟨q, hq, rfl, hb⟩ := hrel
  by_cases hlt : q < L.length
  ·obtain ⟨g, o, rfl, -, hc⟩ := name_at hN hlt
   obtain ⟨g', o', rfl, -, hc'⟩ := name_at hN' hlt
   have hc := below_cell hc hb
   have hc' := below_cell hc' hb
   have hb' := hb.drew
   generalize L[q] = x at *
   clear hN hN'
   go_wp2_with fail
   go_region
   all_goals go_wp2_with fail
   all_goals go_roundw
   all_goals first
    | (case rel => exact ⟨q + 1, by omega, by go_num, hb'⟩)
    | (case measure => simp only [intOf]; omega)
  ·have hlt' : decide ((q : Int) < (L.length : Int)) = false := by simp; omega
   go_wp2_with fail
   go_ret
   exact ⟨rfl, hb⟩
end Go.Proofs.YtdeigdbnnbikgaaGreatDoor.SameT

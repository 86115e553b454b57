import Derived.LoopN
import Derived.LoopTactic
import Derived.Test.YtdeigdbnnbikgaaGreatDoorPL03
set_option linter.unusedVariables false
namespace Go.Proofs.YtdeigdbnnbikgaaGreatDoor.Eq
open Go.RowKit Base
/-- Two texts are the same. -/
def eqB (a b : ByteArray) : Bool := a.toList == b.toList
def eqN : List ByteArray → List ByteArray → Bool
 | [], [] => true
 | a :: xs, b :: bs => eqB a b && eqN xs bs
 | _, _ => false
def sameL : List C → List C → Bool
 | [], [] => true
 | .mk k b i s n l :: cs, .mk k' b' i' s' n' l' :: ds => (decide (k = k') && (if k = 2 then b == b' else if k = 3 then i == i' else if k = 4 then eqB s s' else if k = 5 then sameL l l' else if k = 6 then eqN n n' && sameL l l' else true)) && sameL cs ds
 | _, _ => false
def same : C → C → Bool
 | .mk k b i s n l, .mk k' b' i' s' n' l' => decide (k = k') && (if k = 2 then b == b' else if k = 3 then i == i' else if k = 4 then eqB s s' else if k = 5 then sameL l l' else if k = 6 then eqN n n' && sameL l l' else true)
theorem sameL_cons (c d : C) (cs ds : List C) : sameL (c :: cs) (d :: ds) = (same c d && sameL cs ds) := by
 obtain ⟨k, b, i, s, n, l⟩ := c
 obtain ⟨k', b', i', s', n', l'⟩ := d
 rw [sameL, same]
theorem eqB_eq {a b : ByteArray} : eqB a b = true ↔ a = b := by
 unfold eqB
 rw [beq_iff_eq, ByteArray.toList_eq, ByteArray.toList_eq]
 constructor
 ·intro h
  apply ByteArray.ext
  exact Array.toList_inj.1 h
 ·rintro rfl; rfl
theorem eqN_len {L M : List ByteArray} (h : L.length ≠ M.length) : eqN L M = false := by
 induction L generalizing M with
 | nil => cases M with
  | nil => simp at h
  | cons b bs => rfl
 | cons a xs ih => cases M with
  | nil => rfl
  | cons b bs =>
   rw [eqN, ih (by simpa using h)]
   simp
theorem eqN_iff {L M : List ByteArray} (h : L.length = M.length) : eqN L M = true ↔ ∀ j (h1 : j < L.length) (h2 : j < M.length), eqB L[j] M[j] = true := by
 induction L generalizing M with
 | nil => cases M with
  | nil => simp [eqN]
  | cons b bs => simp at h
 | cons a xs ih => cases M with
  | nil => simp at h
  | cons b bs =>
   rw [eqN, Bool.and_eq_true, ih (by simpa using h)]
   constructor
   ·rintro ⟨h1, h2⟩ j hj hj'
    cases j with
    | zero => exact h1
    | succ j => exact h2 j (by simpa using hj) (by simpa using hj')
   ·intro hh
    exact ⟨hh 0 (by simp) (by simp), fun j h1 h2 => hh (j + 1) (by simpa using h1) (by simpa using h2)⟩
theorem sameL_len {L M : List C} (h : L.length ≠ M.length) : sameL L M = false := by
 induction L generalizing M with
 | nil => cases M with
  | nil => simp at h
  | cons b bs => simp [sameL]
 | cons a xs ih => cases M with
  | nil => simp [sameL]
  | cons b bs =>
   rw [sameL_cons, ih (by simpa using h)]
   simp
theorem sameL_iff {L M : List C} (h : L.length = M.length) : sameL L M = true ↔ ∀ j (h1 : j < L.length) (h2 : j < M.length), same L[j] M[j] = true := by
 induction L generalizing M with
 | nil => cases M with
  | nil => simp [sameL]
  | cons b bs => simp at h
 | cons a xs ih => cases M with
  | nil => simp at h
  | cons b bs =>
   rw [sameL_cons, Bool.and_eq_true, ih (by simpa using h)]
   constructor
   ·rintro ⟨h1, h2⟩ j hj hj'
    cases j with
    | zero => exact h1
    | succ j => exact h2 j (by simpa using hj) (by simpa using hj')
   ·intro hh
    exact ⟨hh 0 (by simp) (by simp), fun j h1 h2 => hh (j + 1) (by simpa using h1) (by simpa using h2)⟩
theorem false_of {b : Bool} (h : ¬ b = true) : b = false := by simpa using h
theorem eqT_c (u v : Value) (L M : List ByteArray) (w : World) (hu : Tx false All w u L) (hv : Tx false All w v M) :
  Calls Tryz.prog 194 #[u, v] w fun e w' => e = .returned (.bool (eqN L M)) ∧ Below w.heap.size w w' := by
 obtain ⟨a, cap, rfl, hlc, hm, hlen, hsz, hnil, hN⟩ := hu.out
 obtain ⟨a', cap', rfl, hlc', hm', hlen', hsz', hnil', hN'⟩ := hv.out
 clear hu hv hsz hsz'
 by_cases hne : L.length = M.length
 ·have HI := eqN_iff hne
  generalize eqN L M = R at *
  have hne' : ((L.length : Int) != (M.length : Int)) = false := by simp; omega
  have HH : Hid (R = true ↔ ∀ j (h1 : j < L.length) (h2 : j < M.length), eqB L[j] M[j] = true) := HI
  clear HI
  go_enter Tryz.func194, Tryz.ntmps194
  go_wp2_with fail
  go_loopw [13] (fun i wr => ∃ q : Nat, q ≤ L.length ∧ i = .int .i64 q ∧ (∀ j (h1 : j < L.length) (h2 : j < M.length), j < q → eqB L[j] M[j] = true) ∧ Below w.heap.size w wr) (fun i _ => L.length - (intOf i).toNat)
  case atStart => exact ⟨0, by omega, rfl, fun j _ _ h => by omega, Below.refl _ _⟩
  case round =>
   obtain ⟨q, hq, rfl, hall, hb⟩ := hrel
   by_cases hlt : q < L.length
   ·have hlt2 : q < M.length := by omega
    obtain ⟨g, o, rfl, -, hc⟩ := name_at hN hlt
    obtain ⟨g', o', rfl, -, hc'⟩ := name_at hN' hlt2
    have hc := below_cell hc hb
    have hc' := below_cell hc' hb
    have hb' := hb.drew
    have HA : Hid (∀ j (h1 : j < L.length) (h2 : j < M.length), j < q → eqB L[j] M[j] = true) := hall
    obtain ⟨x, hx⟩ : ∃ x, L[q] = x := ⟨_, rfl⟩
    obtain ⟨y, hy⟩ : ∃ y, M[q] = y := ⟨_, rfl⟩
    have HX : Hid (L[q] = x) := hx
    have HY : Hid (M[q] = y) := hy
    rw [hx] at hc
    rw [hy] at hc'
    clear hN hN' hall hx hy
    cases he : (x.toList == y.toList) with
    | true =>
     have he' : eqB x y = true := he
     go_wp2_with fail
     go_region
     all_goals go_wp2_with fail
     all_goals go_roundw
     all_goals first
      | (case rel =>
        refine ⟨q + 1, by omega, by go_num, fun j h1 h2 hj => ?_, hb'⟩
        by_cases e : j = q
        ·subst e
         rw [HX.out, HY.out]
         exact he'
        ·exact HA.out j h1 h2 (by omega))
      | (case measure => simp only [intOf]; omega)
    | false =>
     have he' : ¬ eqB x y = true := by unfold eqB; rw [he]; simp
     have hR : R = false := false_of fun h => he' (by have := HH.out.1 h q hlt hlt2; rwa [HX.out, HY.out] at this)
     subst hR
     go_wp2_with fail
     go_region
     all_goals go_wp2_with fail
     all_goals go_ret
     all_goals exact ⟨rfl, hb'⟩
   ·have hlt' : decide ((q : Int) < (L.length : Int)) = false := by simp; omega
    have hR : R = true := HH.out.2 fun j h1 h2 => hall j h1 h2 (by omega)
    subst hR
    clear hall
    go_wp2_with fail
    go_ret
    exact ⟨rfl, hb⟩
 ·rw [eqN_len hne]
  have hne' : ((L.length : Int) != (M.length : Int)) = true := by simp; omega
  go_enter Tryz.func194, Tryz.ntmps194
  go_wp2_with fail
  go_ret
  exact ⟨rfl, Below.refl _ _⟩
end Go.Proofs.YtdeigdbnnbikgaaGreatDoor.Eq
namespace Go.Proofs.YtdeigdbnnbikgaaGreatDoor.Same
open Go.RowKit Base Go.Proofs.YtdeigdbnnbikgaaGreatDoor.Eq
def SameIs (m : Nat) : Prop := ∀ (u v : Value) (c d : C) (w : World), In false All w m u c → In false All w m v d →
  Calls Tryz.prog 155 #[u, v] w fun e w' => e = .returned (.bool (same c d)) ∧ Below w.heap.size w w'
set_option maxRecDepth 20000 in
set_option maxHeartbeats 800000 in
theorem eqF_of (m : Nat) (hm : SameIs m) (u v : Value) (L M : List C) (w : World) (hu : InL false All w m u L) (hv : InL false All w m v M) :
  Calls Tryz.prog 193 #[u, v, .func (.func 155) #[] #[]] w fun e w' => e = .returned (.bool (sameL L M)) ∧ Below w.heap.size w w' := by
 obtain ⟨a, cap, rfl, hlc, hcm, hlen, hnil, hN⟩ := hu.out
 obtain ⟨a', cap', rfl, hlc', hm', hlen', hnil', hN'⟩ := hv.out
 clear hu hv
 by_cases hne : L.length = M.length
 ·have HI := sameL_iff hne
  generalize sameL L M = R at *
  have hne' : ((L.length : Int) != (M.length : Int)) = false := by simp; omega
  have HH : Hid (R = true ↔ ∀ j (h1 : j < L.length) (h2 : j < M.length), same L[j] M[j] = true) := HI
  have hle1 : L.length ≤ M.length := by omega
  have hle2 : M.length ≤ L.length := by omega
  clear HI hne
  go_enter Tryz.func193, Tryz.ntmps193
  go_wp2_with fail
  go_loopw [17] (fun i wr => ∃ q : Nat, q ≤ L.length ∧ i = .int .i64 q ∧ (∀ j (h1 : j < L.length) (h2 : j < M.length), j < q → same L[j] M[j] = true) ∧ Below w.heap.size w wr) (fun i _ => L.length - (intOf i).toNat)
  case atStart => exact ⟨0, by omega, rfl, fun j _ _ h => by omega, Below.refl _ _⟩
  case round =>
   obtain ⟨q, hq, rfl, hall, hb⟩ := hrel
   by_cases hlt : q < L.length
   ·have hlt2 : q < M.length := by omega
    obtain ⟨g, o, x, rfl, -, hx, hin⟩ := elem_at hN hlt
    obtain ⟨g', o', y, rfl, -, hy, hin'⟩ := elem_at hN' hlt2
    have hx := six_below hx hb
    have hy := six_below hy hb
    obtain ⟨x0, x1, x2, x3, x4, x5, rfl, d0, d1, d2, d3, d4, d5⟩ := hx
    obtain ⟨y0, y1, y2, y3, y4, y5, rfl, e0, e1, e2, e3, e4, e5⟩ := hy
    obtain ⟨a1, n1, c1, a2, n2, c2, rfl, rfl, rfl, rfl, rfl, rfl⟩ := hin.kinds
    obtain ⟨p1, q1, r1, p2, q2, r2, rfl, rfl, rfl, rfl, rfl, rfl⟩ := hin'.kinds
    generalize L[q].k = kk, L[q].b = bb, L[q].i = ii, L[q].s = ss, M[q].k = kk', M[q].b = bb', M[q].i = ii', M[q].s = ss' at *
    have hg' : g' < wr.heap.size := cell_lt e0
    have hb2 : Below wr.heap.size wr ((wr.alloc (.cells #[.int .i64 kk, .bool bb, .int .i64 ii, .string ss, .slice a1 n1 c1, .slice a2 n2 c2] 32)).alloc (.cells #[.int .i64 kk', .bool bb', .int .i64 ii', .string ss', .slice p1 q1 r1, .slice p2 q2 r2] 32)) := ((Below.refl _ wr).alloc (Nat.le_refl _) _).alloc (by simp) _
    have c20 := hm _ _ L[q] M[q] _ ((hin.below hb).below hb2) ((hin'.below hb).below hb2)
    have HA : Hid (∀ j (h1 : j < L.length) (h2 : j < M.length), j < q → same L[j] M[j] = true) := hall
    obtain ⟨x, hx⟩ : ∃ x, same L[q] M[q] = x := ⟨_, rfl⟩
    have HX : Hid (same L[q] M[q] = x) := hx
    rw [hx] at c20
    clear hN hN' hall hx hin hin' hm
    go_wp2_with fail
    refine c20.mono ?_
    rintro e w1 ⟨rfl, b1⟩
    have hb3 := nx (nx hb hb2) b1
    clear hb2 b1 c20
    cases x with
    | true =>
     go_wp2_with fail
     go_roundw
     case rel =>
      refine ⟨q + 1, by omega, by go_num, fun j h1 h2 hj => ?_, hb3⟩
      by_cases e : j = q
      ·subst e
       exact HX.out
      ·exact HA.out j h1 h2 (by omega)
     case measure => simp only [intOf]; omega
    | false =>
     have hR : R = false := false_of fun h => by
      have := HH.out.1 h q hlt hlt2
      rw [HX.out] at this
      cases this
     subst hR
     go_wp2_with fail
     go_ret
     exact ⟨rfl, hb3⟩
   ·have hlt' : decide ((q : Int) < (L.length : Int)) = false := by simp; omega
    have hR : R = true := HH.out.2 fun j h1 h2 => hall j h1 h2 (by omega)
    subst hR
    clear hall
    go_wp2_with fail
    go_ret
    exact ⟨rfl, hb⟩
 ·rw [sameL_len hne]
  have hne' : ((L.length : Int) != (M.length : Int)) = true := by simp; omega
  go_enter Tryz.func193, Tryz.ntmps193
  go_wp2_with fail
  go_ret
  exact ⟨rfl, Below.refl _ _⟩
set_option maxRecDepth 20000 in
set_option maxHeartbeats 800000 in
theorem same_of (m : Nat) (hm : ∀ (u v : Value) (L M : List C) (w : World), InL false All w m u L → InL false All w m v M →
   Calls Tryz.prog 193 #[u, v, .func (.func 155) #[] #[]] w fun e w' => e = .returned (.bool (sameL L M)) ∧ Below w.heap.size w w') : SameIs (m + 1) := by
 intro u v c d w hu hv
 obtain ⟨k, b, i, s, n, l⟩ := c
 obtain ⟨k', b', i', s', n', l'⟩ := d
 rw [in_iff] at hu hv
 obtain ⟨nv, lv, rfl, -, -, -, hn, hl⟩ := hu
 obtain ⟨nv', lv', rfl, -, -, -, hn', hl'⟩ := hv
 obtain ⟨W0, hW0⟩ : ∃ W0, (w.alloc (.cells #[.int .i64 k, .bool b, .int .i64 i, .string s, nv, lv] 32)).alloc (.cells #[.int .i64 k', .bool b', .int .i64 i', .string s', nv', lv'] 32) = W0 := ⟨_, rfl⟩
 have hb0 : Below w.heap.size w W0 := by rw [← hW0]; exact ((Below.refl _ w).alloc (Nat.le_refl _) _).alloc (by simp) _
 have hsz0 : W0.heap.size = w.heap.size + 2 := by rw [← hW0]; simp
 have hx0 : W0.heap[w.heap.size]? = some (.cells #[.int .i64 k, .bool b, .int .i64 i, .string s, nv, lv] 32) := by
  rw [← hW0, Below.heap_alloc _ _ _ (by simp), heap_alloc_new]
 have hx1 : W0.heap[w.heap.size + 1]? = some (.cells #[.int .i64 k', .bool b', .int .i64 i', .string s', nv', lv'] 32) := by
  have := heap_alloc_new (w.alloc (.cells #[.int .i64 k, .bool b, .int .i64 i, .string s, nv, lv] 32)) (.cells #[.int .i64 k', .bool b', .int .i64 i', .string s', nv', lv'] 32)
  rwa [hW0, World.size_alloc] at this
 obtain ⟨d0, d1, d2, d3, d4, d5⟩ := six_box hx0
 obtain ⟨e0, e1, e2, e3, e4, e5⟩ := six_box hx1
 by_cases hk : ¬ k = k'
 ·have hk' : (k != k') = true := by simp [hk]
  have e : same (.mk k b i s n l) (.mk k' b' i' s' n' l') = false := by simp [same, hk]
  rw [e]
  clear e
  go_enter Tryz.func155, Tryz.ntmps155
  go_wp2_with fail
  go_ret
  exact ⟨rfl, hb0⟩
 have hk : k = k' := Decidable.of_not_not hk
 subst hk
 by_cases h2 : k = 2
 ·subst h2
  have e : same (.mk 2 b i s n l) (.mk 2 b' i' s' n' l') = (b == b') := by simp [same]
  rw [e]
  clear e
  go_enter Tryz.func155, Tryz.ntmps155
  go_wp2_with fail
  go_ret
  exact ⟨rfl, hb0⟩
 by_cases h3 : k = 3
 ·subst h3
  have e : same (.mk 3 b i s n l) (.mk 3 b' i' s' n' l') = (i == i') := by simp [same]
  rw [e]
  clear e
  go_enter Tryz.func155, Tryz.ntmps155
  go_wp2_with fail
  go_ret
  exact ⟨rfl, hb0⟩
 by_cases h4 : k = 4
 ·subst h4
  have e : same (.mk 4 b i s n l) (.mk 4 b' i' s' n' l') = (s.toList == s'.toList) := by simp [same, eqB]
  rw [e]
  clear e
  go_enter Tryz.func155, Tryz.ntmps155
  go_wp2_with fail
  go_ret
  exact ⟨rfl, hb0⟩
 have h2' : (k == 2) = false := by simp [h2]
 have h3' : (k == 3) = false := by simp [h3]
 have h4' : (k == 4) = false := by simp [h4]
 by_cases h5 : k = 5
 ·subst h5
  have e : same (.mk 5 b i s n l) (.mk 5 b' i' s' n' l') = sameL l l' := by simp [same]
  rw [e]
  have c42 := hm lv lv' l l' W0 (hl.below hb0) (hl'.below hb0)
  generalize sameL l l' = R at *
  clear e hm hx0 hx1
  go_enter Tryz.func155, Tryz.ntmps155
  go_wp2_with (first | (go_at_call 193; refine c42.mono ?_; rintro e w1 ⟨rfl, b1⟩))
  go_ret
  exact ⟨rfl, nx hb0 b1⟩
 have h5' : (k == 5) = false := by simp [h5]
 by_cases h6 : k = 6
 ·subst h6
  have e : same (.mk 6 b i s n l) (.mk 6 b' i' s' n' l') = (eqN n n' && sameL l l') := by simp [same]
  rw [e]
  have c43 := eqT_c nv nv' n n' W0 (hn.below hb0) (hn'.below hb0)
  generalize eqN n n' = T at *
  have hm := fun w h1 h2 => hm lv lv' l l' w h1 h2
  generalize sameL l l' = R at *
  clear e
  go_enter Tryz.func155, Tryz.ntmps155
  go_wp2_with fail
  refine c43.mono ?_
  rintro e w1 ⟨rfl, b1⟩
  have k5 := (six_box ((b1.block w.heap.size (by omega)).trans hx0)).2.2.2.2.2
  have j5 := (six_box ((b1.block (w.heap.size + 1) (by omega)).trans hx1)).2.2.2.2.2
  have c42 := hm w1 ((hl.below hb0).below b1) ((hl'.below hb0).below b1)
  clear c43 hx0 hx1 hW0 hm
  cases T with
  | false =>
   go_wp2_with fail
   go_ret
   exact ⟨rfl, nx hb0 b1⟩
  | true =>
   go_wp2_with (first | (go_at_call 193; refine c42.mono ?_; rintro e w2 ⟨rfl, b2⟩))
   go_ret
   exact ⟨by simp, nx (nx hb0 b1) b2⟩
 have h6' : (k == 6) = false := by simp [h6]
 have e : same (.mk k b i s n l) (.mk k b' i' s' n' l') = true := by simp [same, h2, h3, h4, h5, h6]
 rw [e]
 clear e
 go_enter Tryz.func155, Tryz.ntmps155
 go_wp2_with fail
 go_ret
 exact ⟨rfl, hb0⟩
theorem sames : ∀ m, SameIs m := by
 intro m
 induction m with
 | zero => intro u v c d w h; rw [In] at h; exact h.elim
 | succ m ih => exact same_of m (eqF_of m ih)
theorem same_c {m m' : Nat} {u v : Value} {c d : C} {w : World} (hu : In false All w m u c) (hv : In false All w m' v d) :
  Calls Tryz.prog 155 #[u, v] w fun e w' => e = .returned (.bool (same c d)) ∧ Below w.heap.size w w' :=
 sames (max m m') u v c d w (hu.weak (fun _ h => h) false id _ (Nat.le_max_left _ _)) (hv.weak (fun _ h => h) false id _ (Nat.le_max_right _ _))
end Go.Proofs.YtdeigdbnnbikgaaGreatDoor.Same
namespace Go.Proofs.YtdeigdbnnbikgaaGreatDoor.Shallow
open Go.RowKit Base
def depL : List C → Nat
 | [] => 0
 | .mk _ _ _ _ _ l :: cs => max (depL l + 1) (depL cs)
def dep : C → Nat
 | .mk _ _ _ _ _ l => depL l + 1
theorem depL_cons (c : C) (cs : List C) : depL (c :: cs) = max (dep c) (depL cs) := by
 obtain ⟨k, b, i, s, n, l⟩ := c
 rw [depL, dep]
theorem depL_le {l : List C} {q : Nat} : depL l ≤ q ↔ ∀ j (h : j < l.length), dep l[j] ≤ q := by
 induction l with
 | nil => simp [depL]
 | cons c cs ih =>
  rw [depL_cons, Nat.max_le, ih]
  constructor
  ·rintro ⟨h1, h2⟩ j hj
   cases j with
   | zero => exact h1
   | succ j => exact h2 j (by simpa using hj)
  ·intro h
   exact ⟨h 0 (by simp), fun j hj => h (j + 1) (by simpa using hj)⟩
theorem value_c : ∀ (m : Nat) (v : Value) (c : C) (left : Nat) (w : World), left ≤ 4096 → In false All w m v c →
  Calls Tryz.prog 61 #[v, .int .i64 left] w fun r w' => r = .returned (.bool (decide (dep c ≤ left))) ∧ Below w.heap.size w w' := by
 intro m
 induction m with
 | zero => intro v c left w _ h; rw [In] at h; exact h.elim
 | succ m ih =>
  intro v c left w hle h
  obtain ⟨k, b, i, s, n, l⟩ := c
  rw [in_iff] at h
  obtain ⟨nv, lv, rfl, hk, hi, hs, hn, hL0⟩ := h
  obtain ⟨a, cap, rfl, hl, hcap, hlen, ha, hL⟩ := hL0.out
  clear hL0
  have ih' := Hid.out ih
  have H : Hid (∀ (v : Value) (c : C) (left : Nat) (w : World), left ≤ 4096 → In false All w m v c →
   Calls Tryz.prog 61 #[v, .int .i64 left] w fun r w' => r = .returned (.bool (decide (dep c ≤ left))) ∧ Below w.heap.size w w') := ih
  clear ih ih'
  by_cases h0 : left = 0
  ·subst h0
   have hd : decide (dep (.mk k b i s n l) ≤ 0) = false := by simp [dep]
   rw [hd]
   clear hd
   go_enter Tryz.func61, Tryz.ntmps61
   go_wp2_with fail
   go_ret
   exact ⟨rfl, (Below.refl _ _).alloc (Nat.le_refl _) _⟩
  ·have h0' : ((left : Int) == 0) = false := by simp; omega
   have hd : decide (dep (.mk k b i s n l) ≤ left) = decide (depL l ≤ left - 1) := by simp only [dep]; congr 1; exact propext ⟨fun _ => by omega, fun _ => by omega⟩
   rw [hd]
   clear hd
   go_enter Tryz.func61, Tryz.ntmps61
   go_wp2_with fail
   go_loopw [5] (fun i' wr => ∃ q : Nat, q ≤ l.length ∧ i' = .int .i64 q ∧ (∀ j (h : j < l.length), j < q → dep l[j] ≤ left - 1) ∧
    Below (w.heap.size + 1) (w.alloc (.cells #[.int .i64 k, .bool b, .int .i64 i, .string s, nv, .slice a l.length cap] 32)) wr) (fun i' _ => l.length - (intOf i').toNat)
   case atStart => exact ⟨0, by omega, rfl, fun j _ h => by omega, Below.refl _ _⟩
   case round =>
    obtain ⟨q, hq, rfl, hall, hb⟩ := hrel
    obtain ⟨c0, c1, c2, c3, c4, c5⟩ := six_box (box_at hb)
    by_cases hlt : q < l.length
    ·obtain ⟨g, o, u, rfl, -, hu, hin⟩ := elem_at hL hlt
     have hu := six_below hu (below_box hb)
     have hin := hin.below (below_box hb)
     obtain ⟨v0, v1, v2, v3, v4, v5, rfl, d0, d1, d2, d3, d4, d5⟩ := hu
     go_wp2_with fail
     rw [show (left : Int) - 1 = ((left - 1 : Nat) : Int) by omega]
     refine (H.out _ _ (left - 1) _ (by omega) hin).mono ?_
     rintro e w2 ⟨rfl, b2⟩
     cases hd : decide (dep l[q] ≤ left - 1) with
     | true =>
      go_wp2_with fail
      go_roundw
      case rel =>
       refine ⟨q + 1, by omega, by go_num, fun j hj hjq => ?_, nxB hb (by simp) b2⟩
       by_cases e : j = q
       ·subst e
        exact of_decide_eq_true hd
       ·exact hall j hj (by omega)
      case measure => simp only [intOf]; omega
     | false =>
      go_wp2_with fail
      go_ret
      refine ⟨?_, nx (below_box hb) b2⟩
      have h1 : ¬ dep l[q] ≤ left - 1 := of_decide_eq_false hd
      have : ¬ depL l ≤ left - 1 := fun h => h1 (depL_le.1 h q hlt)
      simp [this]
    ·have hlt' : decide ((q : Int) < (l.length : Int)) = false := by simp; omega
     go_wp2_with fail
     go_ret
     refine ⟨?_, below_box hb⟩
     have : depL l ≤ left - 1 := depL_le.2 fun j hj => hall j hj (by omega)
     simp [this]
theorem shallow_c (m : Nat) (v : Value) (c : C) (w : World) (h : In false All w m v c) :
  Calls Tryz.prog 25 #[v] w fun r w' => r = .returned (.bool (decide (dep c ≤ 4096))) ∧ Below w.heap.size w w' := by
 obtain ⟨v0, v1, v2, v3, v4, v5, rfl, -⟩ := h.six
 have hb : Below w.heap.size w (w.alloc (.cells #[v0, v1, v2, v3, v4, v5] 32)) := (Below.refl _ w).alloc (Nat.le_refl _) _
 have hv := value_c m _ c 4096 (w.alloc (.cells #[v0, v1, v2, v3, v4, v5] 32)) (by omega) (h.below hb)
 generalize dep c = d at *
 clear h
 go_enter Tryz.func25, Tryz.ntmps25
 go_wp2_with (first | (go_at_call 61; refine hv.mono ?_; rintro e w2 ⟨rfl, b2⟩))
 go_ret
 exact ⟨rfl, nx hb b2⟩
end Go.Proofs.YtdeigdbnnbikgaaGreatDoor.Shallow
namespace Go.Proofs.YtdeigdbnnbikgaaGreatDoor.SameT
open Go.RowKit Base
theorem sameT_c (u v : Value) (L : List ByteArray) (w : World) (hu : Tx false All w u L) (hv : Tx false All w v L) :
  Calls Tryz.prog 23 #[u, v] w fun e w' => e = .returned (.bool true) ∧ Below w.heap.size w w' := by
 obtain ⟨a, cap, rfl, hlc, hm, hlen, hsz, hnil, hN⟩ := hu.out
 obtain ⟨a', cap', rfl, hlc', hm', hlen', hsz', hnil', hN'⟩ := hv.out
 clear hu hv hsz hsz' hlen'
 go_enter Tryz.func23, Tryz.ntmps23
 go_wp2_with fail
 go_loopw [5] (fun i wr => ∃ q : Nat, q ≤ L.length ∧ i = .int .i64 q ∧ Below w.heap.size w wr) (fun i _ => L.length - (intOf i).toNat)
 case atStart => exact ⟨0, by omega, rfl, Below.refl _ _⟩
 case round =>
  obtain ⟨q, hq, rfl, hb⟩ := hrel
  by_cases hlt : q < L.length
  ·obtain ⟨g, o, rfl, -, hc⟩ := name_at hN hlt
   obtain ⟨g', o', rfl, -, hc'⟩ := name_at hN' hlt
   have hc := below_cell hc hb
   have hc' := below_cell hc' hb
   have hb' := hb.drew
   generalize L[q] = x at *
   clear hN hN'
   go_wp2_with fail
   go_region
   all_goals go_wp2_with fail
   all_goals go_roundw
   all_goals first
    | (case rel => exact ⟨q + 1, by omega, by go_num, hb'⟩)
    | (case measure => simp only [intOf]; omega)
  ·have hlt' : decide ((q : Int) < (L.length : Int)) = false := by simp; omega
   go_wp2_with fail
   go_ret
   exact ⟨rfl, hb⟩
end Go.Proofs.YtdeigdbnnbikgaaGreatDoor.SameT

/- Whether two values are the same: contracts of slices.EqualFunc over Same, and of Same. -/
import Derived.Test.YtmoblfdepcjgfaaDoorEq
namespace Go.Proofs.YtmoblfdepcjgfaaDoor.Same
open Go.RowKit Go.Proofs.YtmoblfdepcjgfaaDoor.Base Go.Proofs.YtmoblfdepcjgfaaDoor.Eq
set_option linter.unusedVariables false

def SameIs (m : Nat) : Prop := ∀ (u v : Value) (c d : C) (w : World), In false All w m u c → In false All w m v d →
    Calls Tryd.prog 20 #[u, v] w fun e w' => e = .returned (.bool (same c d)) ∧ Below w.heap.size w w'
set_option maxRecDepth 20000 in
set_option maxHeartbeats 800000 in
theorem eqF_of (m : Nat) (hm : SameIs m) (u v : Value) (L M : List C) (w : World) (hu : InL false All w m u L) (hv : InL false All w m v M) :
    Calls Tryd.prog 42 #[u, v, .func (.func 20) #[] #[]] w fun e w' => e = .returned (.bool (sameL L M)) ∧ Below w.heap.size w w' := by
  obtain ⟨a, cap, rfl, hlc, hcm, hlen, hnil, hN⟩ := hu.out
  obtain ⟨a', cap', rfl, hlc', hm', hlen', hnil', hN'⟩ := hv.out
  clear hu hv
  by_cases hne : L.length = M.length
  · have HI := sameL_iff hne
    generalize sameL L M = R at *
    have hne' : ((L.length : Int) != (M.length : Int)) = false := by simp; omega
    have HH : Hid (R = true ↔ ∀ j (h1 : j < L.length) (h2 : j < M.length), same L[j] M[j] = true) := HI
    have hle1 : L.length ≤ M.length := by omega
    have hle2 : M.length ≤ L.length := by omega
    clear HI hne
    go_enter Tryd.func42, Tryd.ntmps42
    go_wp2_with fail
    go_loopw [17] (fun i wr => ∃ q : Nat, q ≤ L.length ∧ i = .int .i64 q ∧ (∀ j (h1 : j < L.length) (h2 : j < M.length), j < q → same L[j] M[j] = true) ∧ Below w.heap.size w wr) (fun i _ => L.length - (intOf i).toNat)
    case atStart => exact ⟨0, by omega, rfl, fun j _ _ h => by omega, Below.refl _ _⟩
    case round =>
      obtain ⟨q, hq, rfl, hall, hb⟩ := hrel
      by_cases hlt : q < L.length
      · have hlt2 : q < M.length := by omega
        obtain ⟨g, o, x, rfl, -, hx, hin⟩ := elem_at hN hlt
        obtain ⟨g', o', y, rfl, -, hy, hin'⟩ := elem_at hN' hlt2
        have hx := six_below hx hb
        have hy := six_below hy hb
        obtain ⟨x0, x1, x2, x3, x4, x5, rfl, d0, d1, d2, d3, d4, d5⟩ := hx
        obtain ⟨y0, y1, y2, y3, y4, y5, rfl, e0, e1, e2, e3, e4, e5⟩ := hy
        obtain ⟨a1, n1, c1, a2, n2, c2, rfl, rfl, rfl, rfl, rfl, rfl⟩ := hin.kinds
        obtain ⟨p1, q1, r1, p2, q2, r2, rfl, rfl, rfl, rfl, rfl, rfl⟩ := hin'.kinds
        generalize L[q].k = kk, L[q].b = bb, L[q].i = ii, L[q].s = ss, M[q].k = kk', M[q].b = bb', M[q].i = ii', M[q].s = ss' at *
        have hg' : g' < wr.heap.size := cell_lt e0
        have hb2 : Below wr.heap.size wr ((wr.alloc (.cells #[.int .i64 kk, .bool bb, .int .i64 ii, .string ss, .slice a1 n1 c1, .slice a2 n2 c2] 25)).alloc (.cells #[.int .i64 kk', .bool bb', .int .i64 ii', .string ss', .slice p1 q1 r1, .slice p2 q2 r2] 25)) := ((Below.refl _ wr).alloc (Nat.le_refl _) _).alloc (by simp) _
        have c20 := hm _ _ L[q] M[q] _ ((hin.below hb).below hb2) ((hin'.below hb).below hb2)
        have HA : Hid (∀ j (h1 : j < L.length) (h2 : j < M.length), j < q → same L[j] M[j] = true) := hall
        obtain ⟨x, hx⟩ : ∃ x, same L[q] M[q] = x := ⟨_, rfl⟩
        have HX : Hid (same L[q] M[q] = x) := hx
        rw [hx] at c20
        clear hN hN' hall hx hin hin' hm
        go_wp2_with fail
        refine c20.mono ?_
        rintro e w1 ⟨rfl, b1⟩
        have hb3 := nx (nx hb hb2) b1
        clear hb2 b1 c20
        cases x with
        | true =>
          go_wp2_with fail
          go_roundw
          case rel =>
            refine ⟨q + 1, by omega, by go_num, fun j h1 h2 hj => ?_, hb3⟩
            by_cases e : j = q
            · subst e
              exact HX.out
            · exact HA.out j h1 h2 (by omega)
          case measure => simp only [intOf]; omega
        | false =>
          have hR : R = false := false_of fun h => by
            have := HH.out.1 h q hlt hlt2
            rw [HX.out] at this
            cases this
          subst hR
          go_wp2_with fail
          go_ret
          exact ⟨rfl, hb3⟩
      · have hlt' : decide ((q : Int) < (L.length : Int)) = false := by simp; omega
        have hR : R = true := HH.out.2 fun j h1 h2 => hall j h1 h2 (by omega)
        subst hR
        clear hall
        go_wp2_with fail
        go_ret
        exact ⟨rfl, hb⟩
  · rw [sameL_len hne]
    have hne' : ((L.length : Int) != (M.length : Int)) = true := by simp; omega
    go_enter Tryd.func42, Tryd.ntmps42
    go_wp2_with fail
    go_ret
    exact ⟨rfl, Below.refl _ _⟩
set_option maxRecDepth 20000 in
set_option maxHeartbeats 800000 in
theorem same_of (m : Nat) (hm : ∀ (u v : Value) (L M : List C) (w : World), InL false All w m u L → InL false All w m v M →
      Calls Tryd.prog 42 #[u, v, .func (.func 20) #[] #[]] w fun e w' => e = .returned (.bool (sameL L M)) ∧ Below w.heap.size w w') : SameIs (m + 1) := by
  intro u v c d w hu hv
  obtain ⟨k, b, i, s, n, l⟩ := c
  obtain ⟨k', b', i', s', n', l'⟩ := d
  rw [in_iff] at hu hv
  obtain ⟨nv, lv, rfl, -, -, -, hn, hl⟩ := hu
  obtain ⟨nv', lv', rfl, -, -, -, hn', hl'⟩ := hv
  obtain ⟨W0, hW0⟩ : ∃ W0, (w.alloc (.cells #[.int .i64 k, .bool b, .int .i64 i, .string s, nv, lv] 25)).alloc (.cells #[.int .i64 k', .bool b', .int .i64 i', .string s', nv', lv'] 25) = W0 := ⟨_, rfl⟩
  have hb0 : Below w.heap.size w W0 := by rw [← hW0]; exact ((Below.refl _ w).alloc (Nat.le_refl _) _).alloc (by simp) _
  have hsz0 : W0.heap.size = w.heap.size + 2 := by rw [← hW0]; simp
  have hx0 : W0.heap[w.heap.size]? = some (.cells #[.int .i64 k, .bool b, .int .i64 i, .string s, nv, lv] 25) := by
    rw [← hW0, Below.heap_alloc _ _ _ (by simp), heap_alloc_new]
  have hx1 : W0.heap[w.heap.size + 1]? = some (.cells #[.int .i64 k', .bool b', .int .i64 i', .string s', nv', lv'] 25) := by
    have := heap_alloc_new (w.alloc (.cells #[.int .i64 k, .bool b, .int .i64 i, .string s, nv, lv] 25)) (.cells #[.int .i64 k', .bool b', .int .i64 i', .string s', nv', lv'] 25)
    rwa [hW0, World.size_alloc] at this
  obtain ⟨d0, d1, d2, d3, d4, d5⟩ := six_box hx0
  obtain ⟨e0, e1, e2, e3, e4, e5⟩ := six_box hx1
  by_cases hk : ¬ k = k'
  · have hk' : (k != k') = true := by simp [hk]
    have e : same (.mk k b i s n l) (.mk k' b' i' s' n' l') = false := by simp [same, hk]
    rw [e]
    clear e
    go_enter Tryd.func20, Tryd.ntmps20
    go_wp2_with fail
    go_ret
    exact ⟨rfl, hb0⟩
  have hk : k = k' := Decidable.of_not_not hk
  subst hk
  by_cases h2 : k = 2
  · subst h2
    have e : same (.mk 2 b i s n l) (.mk 2 b' i' s' n' l') = (b == b') := by simp [same]
    rw [e]
    clear e
    go_enter Tryd.func20, Tryd.ntmps20
    go_wp2_with fail
    go_ret
    exact ⟨rfl, hb0⟩
  by_cases h3 : k = 3
  · subst h3
    have e : same (.mk 3 b i s n l) (.mk 3 b' i' s' n' l') = (i == i') := by simp [same]
    rw [e]
    clear e
    go_enter Tryd.func20, Tryd.ntmps20
    go_wp2_with fail
    go_ret
    exact ⟨rfl, hb0⟩
  by_cases h4 : k = 4
  · subst h4
    have e : same (.mk 4 b i s n l) (.mk 4 b' i' s' n' l') = (s.toList == s'.toList) := by simp [same, eqB]
    rw [e]
    clear e
    go_enter Tryd.func20, Tryd.ntmps20
    go_wp2_with fail
    go_ret
    exact ⟨rfl, hb0⟩
  have h2' : (k == 2) = false := by simp [h2]
  have h3' : (k == 3) = false := by simp [h3]
  have h4' : (k == 4) = false := by simp [h4]
  by_cases h5 : k = 5
  · subst h5
    have e : same (.mk 5 b i s n l) (.mk 5 b' i' s' n' l') = sameL l l' := by simp [same]
    rw [e]
    have c42 := hm lv lv' l l' W0 (hl.below hb0) (hl'.below hb0)
    generalize sameL l l' = R at *
    clear e hm hx0 hx1
    go_enter Tryd.func20, Tryd.ntmps20
    go_wp2_with (first | (go_at_call 42; refine c42.mono ?_; rintro e w1 ⟨rfl, b1⟩))
    go_ret
    exact ⟨rfl, nx hb0 b1⟩
  have h5' : (k == 5) = false := by simp [h5]
  by_cases h6 : k = 6
  · subst h6
    have e : same (.mk 6 b i s n l) (.mk 6 b' i' s' n' l') = (eqN n n' && sameL l l') := by simp [same]
    rw [e]
    have c43 := eqT_c nv nv' n n' W0 (hn.below hb0) (hn'.below hb0)
    generalize eqN n n' = T at *
    have hm := fun w h1 h2 => hm lv lv' l l' w h1 h2
    generalize sameL l l' = R at *
    clear e
    go_enter Tryd.func20, Tryd.ntmps20
    go_wp2_with fail
    refine c43.mono ?_
    rintro e w1 ⟨rfl, b1⟩
    have k5 := (six_box ((b1.block w.heap.size (by omega)).trans hx0)).2.2.2.2.2
    have j5 := (six_box ((b1.block (w.heap.size + 1) (by omega)).trans hx1)).2.2.2.2.2
    have c42 := hm w1 ((hl.below hb0).below b1) ((hl'.below hb0).below b1)
    clear c43 hx0 hx1 hW0 hm
    cases T with
    | false =>
      go_wp2_with fail
      go_ret
      exact ⟨rfl, nx hb0 b1⟩
    | true =>
      go_wp2_with (first | (go_at_call 42; refine c42.mono ?_; rintro e w2 ⟨rfl, b2⟩))
      go_ret
      exact ⟨by simp, nx (nx hb0 b1) b2⟩
  have h6' : (k == 6) = false := by simp [h6]
  have e : same (.mk k b i s n l) (.mk k b' i' s' n' l') = true := by simp [same, h2, h3, h4, h5, h6]
  rw [e]
  clear e
  go_enter Tryd.func20, Tryd.ntmps20
  go_wp2_with fail
  go_ret
  exact ⟨rfl, hb0⟩
theorem sames : ∀ m, SameIs m := by
  intro m
  induction m with
  | zero => intro u v c d w h; rw [In] at h; exact h.elim
  | succ m ih => exact same_of m (eqF_of m ih)
theorem same_c {m m' : Nat} {u v : Value} {c d : C} {w : World} (hu : In false All w m u c) (hv : In false All w m' v d) :
    Calls Tryd.prog 20 #[u, v] w fun e w' => e = .returned (.bool (same c d)) ∧ Below w.heap.size w w' :=
  sames (max m m') u v c d w (hu.weak (fun _ h => h) false id _ (Nat.le_max_left _ _)) (hv.weak (fun _ h => h) false id _ (Nat.le_max_right _ _))
end Go.Proofs.YtmoblfdepcjgfaaDoor.Same

import Derived.Test.YtiijfmdfccdagaaGreatDoorPL03
import Derived.Test.YtiijfmdfccdagaaGreatDoorPL04
open Go.Proofs.Tryz
set_option linter.unusedVariables false
set_option maxRecDepth 20000
set_option maxHeartbeats 3200000
namespace Go.Proofs.YtiijfmdfccdagaaGreatDoor.Same
open Go.RowKit Base Go.Proofs.YtiijfmdfccdagaaGreatDoor.Eq
def SameIs (m : Nat) : Prop := ∀ (u v : Value) (c d : C) (w : World), In false All w m u c -> In false All w m v d ->
  Calls prog 22 #[u, v] w fun e w' => e = .returned (.bool (same c d)) /\ Below w.heap.size w w'
theorem eqF_of (m : Nat) (hm : SameIs m) (u v : Value) (L M : List C) (w : World) (hu : InL false All w m u L) (hv : InL false All w m v M) :
  Calls prog 37 #[u, v, .func (.func 22) #[] #[]] w fun e w' => e = .returned (.bool (sameL L M)) /\ Below w.heap.size w w' := by
 obtain ⟨a, cap, rfl, hlc, hcm, hlen, hnil, hN⟩ := hu.out
 obtain ⟨a', cap', rfl, hlc', hm', hlen', hnil', hN'⟩ := hv.out
 clear hu hv
 by_cases hne : L.length = M.length
 ·have HI := sameL_iff hne
  generalize sameL L M = R at *
  have hne' : ((L.length : Int) != (M.length : Int)) = false := by simp; omega
  have HH := hid HI
  have hle1 : L.length <= M.length := by omega
  have hle2 : M.length <= L.length := by omega
  clear HI hne
  go_enter func37, ntmps37
  go_wp2_with fail
  go_loopw [17] (fun i wr => ∃ q : Nat, q <= L.length /\ i = .int .i64 q /\ (∀ j (h1 : j < L.length) (h2 : j < M.length), j < q -> same L[j] M[j] = true) /\ Below w.heap.size w wr) (fun i _ => L.length - (intOf i).toNat)
  case atStart => exact ⟨0, by omega, rfl, fun j _ _ h => by omega, Below.refl _ _⟩
  case round =>
   obtain ⟨q, hq, rfl, hall, hb⟩ := hrel
   by_cases hlt : q < L.length
   ·have hlt2 : q < M.length := by omega
    obtain ⟨g, o, x, rfl, -, hx, hin⟩ := elem_at hN hlt
    obtain ⟨g', o', y, rfl, -, hy, hin'⟩ := elem_at hN' hlt2
    have hx := six_below hx hb
    have hy := six_below hy hb
    obtain ⟨x0, x1, x2, x3, x4, x5, rfl, d0, d1, d2, d3, d4, d5⟩ := hx
    obtain ⟨y0, y1, y2, y3, y4, y5, rfl, e0, e1, e2, e3, e4, e5⟩ := hy
    obtain ⟨a1, n1, c1, a2, n2, c2, rfl, rfl, rfl, rfl, rfl, rfl⟩ := hin.kinds
    obtain ⟨p1, q1, r1, p2, q2, r2, rfl, rfl, rfl, rfl, rfl, rfl⟩ := hin'.kinds
    generalize L[q].k = kk, L[q].b = bb, L[q].i = ii, L[q].s = ss, M[q].k = kk', M[q].b = bb', M[q].i = ii', M[q].s = ss' at *
    have hg' := cell_lt e0
    have hb2 : Below wr.heap.size wr ((wr.alloc (.cells #[.int .i64 kk, .bool bb, .int .i64 ii, .string ss, .slice a1 n1 c1, .slice a2 n2 c2] 26)).alloc (.cells #[.int .i64 kk', .bool bb', .int .i64 ii', .string ss', .slice p1 q1 r1, .slice p2 q2 r2] 26)) := ((Below.refl _ wr).alloc (Nat.le_refl _) _).alloc (by simp) _
    have c20 := hm _ _ L[q] M[q] _ ((hin.below hb).below hb2) ((hin'.below hb).below hb2)
    have HA := hid hall
    obtain ⟨x, hx⟩ : ∃ x, same L[q] M[q] = x := ⟨_, rfl⟩
    have HX := hid hx
    rw [hx] at c20
    clear hN hN' hall hx hin hin' hm
    go_wp2_with fail
    refine c20.mono ?_
    rintro e w1 ⟨rfl, b1⟩
    have hb3 := nx (nx hb hb2) b1
    clear hb2 b1 c20
    cases x with
    | true =>
     go_wp2_with fail
     go_roundw
     case rel =>
      refine ⟨q + 1, by omega, by go_num, fun j h1 h2 hj => ?_, hb3⟩
      by_cases e : j = q
      ·subst e
       exact HX.out
      ·exact HA.out j h1 h2 (by omega)
     case measure => simp only [intOf]; omega
    | false =>
     have hR : R = false := false_of fun h => by
      have := HH.out.1 h q hlt hlt2
      rw [HX.out] at this
      cases this
     subst hR
     go_wp2_with fail
     go_ret
     exact ⟨rfl, hb3⟩
   ·have hlt' : decide ((q : Int) < (L.length : Int)) = false := by simp; omega
    have hR : R = true := HH.out.2 fun j h1 h2 => hall j h1 h2 (by omega)
    subst hR
    clear hall
    go_wp2_with fail
    go_ret
    exact ⟨rfl, hb⟩
 ·rw [sameL_len hne]
  have hne' : ((L.length : Int) != (M.length : Int)) = true := by simp; omega
  go_enter func37, ntmps37
  go_wp2_with fail
  go_ret
  exact ⟨rfl, Below.refl _ _⟩
theorem same_of (m : Nat) (hm : ∀ (u v : Value) (L M : List C) (w : World), InL false All w m u L -> InL false All w m v M ->
   Calls prog 37 #[u, v, .func (.func 22) #[] #[]] w fun e w' => e = .returned (.bool (sameL L M)) /\ Below w.heap.size w w') : SameIs (m + 1) := by
 intro u v c d w hu hv
 obtain ⟨k, b, i, s, n, l⟩ := c
 obtain ⟨k', b', i', s', n', l'⟩ := d
 rw [in_iff] at hu hv
 obtain ⟨nv, lv, rfl, -, -, -, hn, hl⟩ := hu
 obtain ⟨nv', lv', rfl, -, -, -, hn', hl'⟩ := hv
 obtain ⟨W0, hW0⟩ : ∃ W0, (w.alloc (.cells #[.int .i64 k, .bool b, .int .i64 i, .string s, nv, lv] 26)).alloc (.cells #[.int .i64 k', .bool b', .int .i64 i', .string s', nv', lv'] 26) = W0 := ⟨_, rfl⟩
 have hb0 : Below w.heap.size w W0 := by rw [<- hW0]; exact ((Below.refl _ w).alloc (Nat.le_refl _) _).alloc (by simp) _
 have hsz0 : W0.heap.size = w.heap.size + 2 := by rw [<- hW0]; simp
 have hx0 : W0.heap[w.heap.size]? = some (.cells #[.int .i64 k, .bool b, .int .i64 i, .string s, nv, lv] 26) := by
  rw [<- hW0, Below.heap_alloc _ _ _ (by simp), heap_alloc_new]
 have hx1 : W0.heap[w.heap.size + 1]? = some (.cells #[.int .i64 k', .bool b', .int .i64 i', .string s', nv', lv'] 26) := by
  have := heap_alloc_new (w.alloc (.cells #[.int .i64 k, .bool b, .int .i64 i, .string s, nv, lv] 26)) (.cells #[.int .i64 k', .bool b', .int .i64 i', .string s', nv', lv'] 26)
  rwa [hW0, World.size_alloc] at this
 obtain ⟨d0, d1, d2, d3, d4, d5⟩ := six_box hx0
 obtain ⟨e0, e1, e2, e3, e4, e5⟩ := six_box hx1
 by_cases hk : ¬ k = k'
 ·have hk' : (k != k') = true := by simp [hk]
  have e : same (.mk k b i s n l) (.mk k' b' i' s' n' l') = false := by simp [same, hk]
  rw [e]
  clear e
  go_enter func22, ntmps22
  go_wp2_with fail
  go_ret
  exact ⟨rfl, hb0⟩
 have hk := Decidable.of_not_not hk
 subst hk
 by_cases h2 : k = 2
 ·subst h2
  have e : same (.mk 2 b i s n l) (.mk 2 b' i' s' n' l') = (b == b') := by simp [same]
  rw [e]
  clear e
  go_enter func22, ntmps22
  go_wp2_with fail
  go_ret
  exact ⟨rfl, hb0⟩
 by_cases h3 : k = 3
 ·subst h3
  have e : same (.mk 3 b i s n l) (.mk 3 b' i' s' n' l') = (i == i') := by simp [same]
  rw [e]
  clear e
  go_enter func22, ntmps22
  go_wp2_with fail
  go_ret
  exact ⟨rfl, hb0⟩
 by_cases h4 : k = 4
 ·subst h4
  have e : same (.mk 4 b i s n l) (.mk 4 b' i' s' n' l') = (s.toList == s'.toList) := by simp [same, eqB]
  rw [e]
  clear e
  go_enter func22, ntmps22
  go_wp2_with fail
  go_ret
  exact ⟨rfl, hb0⟩
 have h2' : (k == 2) = false := by simp [h2]
 have h3' : (k == 3) = false := by simp [h3]
 have h4' : (k == 4) = false := by simp [h4]
 by_cases h5 : k = 5
 ·subst h5
  have e : same (.mk 5 b i s n l) (.mk 5 b' i' s' n' l') = sameL l l' := by simp [same]
  rw [e]
  have c42 := hm lv lv' l l' W0 (hl.below hb0) (hl'.below hb0)
  generalize sameL l l' = R at *
  clear e hm hx0 hx1
  go_enter func22, ntmps22
  go_wp2_with (first | (go_at_call 37; refine c42.mono ?_; rintro e w1 ⟨rfl, b1⟩))
  go_ret
  exact ⟨rfl, nx hb0 b1⟩
 have h5' : (k == 5) = false := by simp [h5]
 by_cases h6 : k = 6
 ·subst h6
  have e : same (.mk 6 b i s n l) (.mk 6 b' i' s' n' l') = (eqN n n' && sameL l l') := by simp [same]
  rw [e]
  have c43 := eqT_c nv nv' n n' W0 (hn.below hb0) (hn'.below hb0)
  generalize eqN n n' = T at *
  have hm := fun w h1 h2 => hm lv lv' l l' w h1 h2
  generalize sameL l l' = R at *
  clear e
  go_enter func22, ntmps22
  go_wp2_with fail
  refine c43.mono ?_
  rintro e w1 ⟨rfl, b1⟩
  have k5 := (six_box ((b1.block w.heap.size (by omega)).trans hx0)).2.2.2.2.2
  have j5 := (six_box ((b1.block (w.heap.size + 1) (by omega)).trans hx1)).2.2.2.2.2
  have c42 := hm w1 ((hl.below hb0).below b1) ((hl'.below hb0).below b1)
  clear c43 hx0 hx1 hW0 hm
  cases T with
  | false =>
   go_wp2_with fail
   go_ret
   exact ⟨rfl, nx hb0 b1⟩
  | true =>
   go_wp2_with (first | (go_at_call 37; refine c42.mono ?_; rintro e w2 ⟨rfl, b2⟩))
   go_ret
   exact ⟨by simp, nx (nx hb0 b1) b2⟩
 have h6' : (k == 6) = false := by simp [h6]
 have e : same (.mk k b i s n l) (.mk k b' i' s' n' l') = true := by simp [same, h2, h3, h4, h5, h6]
 rw [e]
 clear e
 go_enter func22, ntmps22
 go_wp2_with fail
 go_ret
 exact ⟨rfl, hb0⟩
theorem sames : ∀ m, SameIs m := by
 intro m
 induction m with
 | zero => intro u v c d w h; rw [In] at h; exact h.elim
 | succ m ih => exact same_of m (eqF_of m ih)
theorem same_c {m m' : Nat} {u v : Value} {c d : C} {w : World} (hu : In false All w m u c) (hv : In false All w m' v d) :
  Calls prog 22 #[u, v] w fun e w' => e = .returned (.bool (same c d)) /\ Below w.heap.size w w' :=
 sames (max m m') u v c d w (hu.weak (fun _ h => h) false id _ (Nat.le_max_left _ _)) (hv.weak (fun _ h => h) false id _ (Nat.le_max_right _ _))
end Go.Proofs.YtiijfmdfccdagaaGreatDoor.Same
namespace Go.Proofs.YtiijfmdfccdagaaGreatDoor.VBi
open Go.RowKit Base VPure VSm VIn VEx
theorem bit_rng (o x y : Int) : -9223372036854775808 <= bit o x y /\ bit o x y <= 9223372036854775807 := by
 unfold bit
 repeat' split
 all_goals (unfold Go.bits; simp only []; rw [IntKind.wrap_i64]; omega)
theorem bits_20 (k1 : Int) (b1 : Bool) (i1 : Int) (s1 : ByteArray) (n1 l1 : Value) (k2 : Int) (b2 : Bool) (i2 : Int) (s2 : ByteArray) (n2 l2 : Value) (w : World) :
  Calls prog 130 #[.int .i64 20, vl k1 b1 i1 s1 n1 l1, vl k2 b2 i2 s2 n2 l2] w fun e w' => An w w' e (fun c : Int => v0 3 false c ⟨#[]⟩) (twX k1 k2 (bit 20 i1 i2)) := by
 obtain ⟨W0, hW0, hs0, hb0, hp, hq, hr⟩ := two3 w #[.int .i64 k1, .bool b1, .int .i64 i1, .string s1, n1, l1] #[.int .i64 k2, .bool b2, .int .i64 i2, .string s2, n2, l2]
 have HR := hid hr
 have HB := hid hb0
 obtain ⟨p0, p1, p2, p3, p4, p5⟩ := six_box hp
 obtain ⟨q0, q1, q2, q3, q4, q5⟩ := six_box hq
 have cI := integers_c k1 b1 i1 s1 n1 l1 k2 b2 i2 s2 n2 l2 W0
 have eX : Go.bits .and .i64 i1 i2 = bit 20 i1 i2 := rfl
 obtain ⟨X, hX⟩ : ∃ X, bit 20 i1 i2 = X := ⟨_, rfl⟩
 rw [hX] at eX ⊢
 have cN := number_c X
 obtain ⟨U, hU⟩ : ∃ U, twX k1 k2 X = U := ⟨_, rfl⟩
 rw [hU]
 unfold twX at hU
 clear hp hq hb0 hr hX
 go_enter func130, ntmps130
 go_wp2_with fail
 try rw [hW0]
 refine cI.mono ?_
 intro e W1 hA
 clear cI
 by_cases h1 : k1 = 3
 ·rw [if_pos h1] at hA hU
  by_cases h2 : k2 = 3
  ·rw [if_pos h2] at hA hU
   obtain ⟨rfl, hb1⟩ := hA
   have HR1 := hid ((hb1.block (w.heap.size + 2) (by omega)).trans HR.out)
   have hs1 := hb1.size
   have HB1 := hid (HB.out.trans (hb1.mono HB.out.size))
   clear hb1 HR HB p0 p1 p2 p3 p4 p5 q0 q1 q2 q3 q4 q5 h1 h2
   have HU := hid hU
   clear hU
   go_wp2_with fail
   refine (cN _).mono ?_
   rintro e W2 ⟨rfl, hb2⟩
   clear cN eX
   have hr := (hb2.block (w.heap.size + 2) (by omega)).trans HR1.out
   have HB2 := hid (HB1.out.trans (hb2.mono HB1.out.size))
   clear hb2 HB1 HR1
   obtain ⟨r0, r1, r2, r3, r4, r5⟩ := six_box hr
   obtain ⟨rf0, rf1, rf2, rf3, rf4, rf5⟩ := Base.frz6 hr
   go_wp2_with fail
   obtain ⟨W9, hW9⟩ := stc6 W2 (w.heap.size + 2) (.int .i64 3) (.bool false) (.int .i64 X) (.string ⟨#[]⟩) (.slice none 0 0) (.slice none 0 0)
   rw [hW9]
   obtain ⟨q1, q2, q3, q4⟩ := set6 _ _ _ _ _ _ hr hW9
   first | refine out_ret (results_cell_row rfl _ W9 (w.heap.size + 2) 26 _ (0, 0) _ rfl q1 underlying26 rfl (by kernel_rfl)) rfl ?_ | refine bodyPost_ret (results_cell_row rfl _ W9 (w.heap.size + 2) 26 _ (0, 0) _ rfl q1 underlying26 rfl (by kernel_rfl)) rfl ?_
   rw [<- HU.out]
   exact ⟨rfl, q4 _ _ (by omega) HB2.out⟩
  ·rw [if_neg h2] at hA hU
   obtain ⟨rfl, hb1⟩ := hA
   subst hU
   exact ⟨rfl, rfl, HB.out.trans (hb1.mono HB.out.size)⟩
 ·rw [if_neg h1] at hA hU
  obtain ⟨rfl, hb1⟩ := hA
  subst hU
  exact ⟨rfl, rfl, HB.out.trans (hb1.mono HB.out.size)⟩
theorem bits_21 (k1 : Int) (b1 : Bool) (i1 : Int) (s1 : ByteArray) (n1 l1 : Value) (k2 : Int) (b2 : Bool) (i2 : Int) (s2 : ByteArray) (n2 l2 : Value) (w : World) :
  Calls prog 130 #[.int .i64 21, vl k1 b1 i1 s1 n1 l1, vl k2 b2 i2 s2 n2 l2] w fun e w' => An w w' e (fun c : Int => v0 3 false c ⟨#[]⟩) (twX k1 k2 (bit 21 i1 i2)) := by
 obtain ⟨W0, hW0, hs0, hb0, hp, hq, hr⟩ := two3 w #[.int .i64 k1, .bool b1, .int .i64 i1, .string s1, n1, l1] #[.int .i64 k2, .bool b2, .int .i64 i2, .string s2, n2, l2]
 have HR := hid hr
 have HB := hid hb0
 obtain ⟨p0, p1, p2, p3, p4, p5⟩ := six_box hp
 obtain ⟨q0, q1, q2, q3, q4, q5⟩ := six_box hq
 have cI := integers_c k1 b1 i1 s1 n1 l1 k2 b2 i2 s2 n2 l2 W0
 have eX : Go.bits .xor .i64 i1 i2 = bit 21 i1 i2 := rfl
 obtain ⟨X, hX⟩ : ∃ X, bit 21 i1 i2 = X := ⟨_, rfl⟩
 rw [hX] at eX ⊢
 have cN := number_c X
 obtain ⟨U, hU⟩ : ∃ U, twX k1 k2 X = U := ⟨_, rfl⟩
 rw [hU]
 unfold twX at hU
 clear hp hq hb0 hr hX
 go_enter func130, ntmps130
 go_wp2_with fail
 try rw [hW0]
 refine cI.mono ?_
 intro e W1 hA
 clear cI
 by_cases h1 : k1 = 3
 ·rw [if_pos h1] at hA hU
  by_cases h2 : k2 = 3
  ·rw [if_pos h2] at hA hU
   obtain ⟨rfl, hb1⟩ := hA
   have HR1 := hid ((hb1.block (w.heap.size + 2) (by omega)).trans HR.out)
   have hs1 := hb1.size
   have HB1 := hid (HB.out.trans (hb1.mono HB.out.size))
   clear hb1 HR HB p0 p1 p2 p3 p4 p5 q0 q1 q2 q3 q4 q5 h1 h2
   have HU := hid hU
   clear hU
   go_wp2_with fail
   refine (cN _).mono ?_
   rintro e W2 ⟨rfl, hb2⟩
   clear cN eX
   have hr := (hb2.block (w.heap.size + 2) (by omega)).trans HR1.out
   have HB2 := hid (HB1.out.trans (hb2.mono HB1.out.size))
   clear hb2 HB1 HR1
   obtain ⟨r0, r1, r2, r3, r4, r5⟩ := six_box hr
   obtain ⟨rf0, rf1, rf2, rf3, rf4, rf5⟩ := Base.frz6 hr
   go_wp2_with fail
   obtain ⟨W9, hW9⟩ := stc6 W2 (w.heap.size + 2) (.int .i64 3) (.bool false) (.int .i64 X) (.string ⟨#[]⟩) (.slice none 0 0) (.slice none 0 0)
   rw [hW9]
   obtain ⟨q1, q2, q3, q4⟩ := set6 _ _ _ _ _ _ hr hW9
   first | refine out_ret (results_cell_row rfl _ W9 (w.heap.size + 2) 26 _ (0, 0) _ rfl q1 underlying26 rfl (by kernel_rfl)) rfl ?_ | refine bodyPost_ret (results_cell_row rfl _ W9 (w.heap.size + 2) 26 _ (0, 0) _ rfl q1 underlying26 rfl (by kernel_rfl)) rfl ?_
   rw [<- HU.out]
   exact ⟨rfl, q4 _ _ (by omega) HB2.out⟩
  ·rw [if_neg h2] at hA hU
   obtain ⟨rfl, hb1⟩ := hA
   subst hU
   exact ⟨rfl, rfl, HB.out.trans (hb1.mono HB.out.size)⟩
 ·rw [if_neg h1] at hA hU
  obtain ⟨rfl, hb1⟩ := hA
  subst hU
  exact ⟨rfl, rfl, HB.out.trans (hb1.mono HB.out.size)⟩
theorem bits_22 (k1 : Int) (b1 : Bool) (i1 : Int) (s1 : ByteArray) (n1 l1 : Value) (k2 : Int) (b2 : Bool) (i2 : Int) (s2 : ByteArray) (n2 l2 : Value) (w : World) :
  Calls prog 130 #[.int .i64 22, vl k1 b1 i1 s1 n1 l1, vl k2 b2 i2 s2 n2 l2] w fun e w' => An w w' e (fun c : Int => v0 3 false c ⟨#[]⟩) (twX k1 k2 (bit 22 i1 i2)) := by
 obtain ⟨W0, hW0, hs0, hb0, hp, hq, hr⟩ := two3 w #[.int .i64 k1, .bool b1, .int .i64 i1, .string s1, n1, l1] #[.int .i64 k2, .bool b2, .int .i64 i2, .string s2, n2, l2]
 have HR := hid hr
 have HB := hid hb0
 obtain ⟨p0, p1, p2, p3, p4, p5⟩ := six_box hp
 obtain ⟨q0, q1, q2, q3, q4, q5⟩ := six_box hq
 have cI := integers_c k1 b1 i1 s1 n1 l1 k2 b2 i2 s2 n2 l2 W0
 have eX : Go.bits .or .i64 i1 i2 = bit 22 i1 i2 := rfl
 obtain ⟨X, hX⟩ : ∃ X, bit 22 i1 i2 = X := ⟨_, rfl⟩
 rw [hX] at eX ⊢
 have cN := number_c X
 obtain ⟨U, hU⟩ : ∃ U, twX k1 k2 X = U := ⟨_, rfl⟩
 rw [hU]
 unfold twX at hU
 clear hp hq hb0 hr hX
 go_enter func130, ntmps130
 go_wp2_with fail
 try rw [hW0]
 refine cI.mono ?_
 intro e W1 hA
 clear cI
 by_cases h1 : k1 = 3
 ·rw [if_pos h1] at hA hU
  by_cases h2 : k2 = 3
  ·rw [if_pos h2] at hA hU
   obtain ⟨rfl, hb1⟩ := hA
   have HR1 := hid ((hb1.block (w.heap.size + 2) (by omega)).trans HR.out)
   have hs1 := hb1.size
   have HB1 := hid (HB.out.trans (hb1.mono HB.out.size))
   clear hb1 HR HB p0 p1 p2 p3 p4 p5 q0 q1 q2 q3 q4 q5 h1 h2
   have HU := hid hU
   clear hU
   go_wp2_with fail
   refine (cN _).mono ?_
   rintro e W2 ⟨rfl, hb2⟩
   clear cN eX
   have hr := (hb2.block (w.heap.size + 2) (by omega)).trans HR1.out
   have HB2 := hid (HB1.out.trans (hb2.mono HB1.out.size))
   clear hb2 HB1 HR1
   obtain ⟨r0, r1, r2, r3, r4, r5⟩ := six_box hr
   obtain ⟨rf0, rf1, rf2, rf3, rf4, rf5⟩ := Base.frz6 hr
   go_wp2_with fail
   obtain ⟨W9, hW9⟩ := stc6 W2 (w.heap.size + 2) (.int .i64 3) (.bool false) (.int .i64 X) (.string ⟨#[]⟩) (.slice none 0 0) (.slice none 0 0)
   rw [hW9]
   obtain ⟨q1, q2, q3, q4⟩ := set6 _ _ _ _ _ _ hr hW9
   first | refine out_ret (results_cell_row rfl _ W9 (w.heap.size + 2) 26 _ (0, 0) _ rfl q1 underlying26 rfl (by kernel_rfl)) rfl ?_ | refine bodyPost_ret (results_cell_row rfl _ W9 (w.heap.size + 2) 26 _ (0, 0) _ rfl q1 underlying26 rfl (by kernel_rfl)) rfl ?_
   rw [<- HU.out]
   exact ⟨rfl, q4 _ _ (by omega) HB2.out⟩
  ·rw [if_neg h2] at hA hU
   obtain ⟨rfl, hb1⟩ := hA
   subst hU
   exact ⟨rfl, rfl, HB.out.trans (hb1.mono HB.out.size)⟩
 ·rw [if_neg h1] at hA hU
  obtain ⟨rfl, hb1⟩ := hA
  subst hU
  exact ⟨rfl, rfl, HB.out.trans (hb1.mono HB.out.size)⟩
theorem pair_20 (k1 : Int) (b1 : Bool) (i1 : Int) (s1 : ByteArray) (n1 l1 : Value) (k2 : Int) (b2 : Bool) (i2 : Int) (s2 : ByteArray) (n2 l2 : Value) (w : World) :
  Calls prog 94 #[.int .i64 20, vl k1 b1 i1 s1 n1 l1, vl k2 b2 i2 s2 n2 l2] w fun e w' => An w w' e (fun c : Int => v0 3 false c ⟨#[]⟩) (twX k1 k2 (bit 20 i1 i2)) := by
 obtain ⟨W0, hW0, hs0, hb0, hp, hq, hr⟩ := two3 w #[.int .i64 k1, .bool b1, .int .i64 i1, .string s1, n1, l1] #[.int .i64 k2, .bool b2, .int .i64 i2, .string s2, n2, l2]
 have HR := hid hr
 have HB := hid hb0
 obtain ⟨p0, p1, p2, p3, p4, p5⟩ := six_box hp
 obtain ⟨q0, q1, q2, q3, q4, q5⟩ := six_box hq
 have cI := bits_20 k1 b1 i1 s1 n1 l1 k2 b2 i2 s2 n2 l2 W0
 obtain ⟨U, hU⟩ : ∃ U, twX k1 k2 (bit 20 i1 i2) = U := ⟨_, rfl⟩
 rw [hU] at cI ⊢
 clear hp hq hb0 hr hU
 go_enter func94, ntmps94
 go_upto_if 31 with fail
 refine wp_cond_true (by rfl) ?_
 refine wp_skip ?_
 refine ex_norm ?_
 apply_assumption
 go_upto_if 31 with fail
 refine wp_cond_true (by rfl) ?_
 refine wp_exit ?_
 repeat (first | (with_reducible refine ex_then ?_) | (with_reducible refine ex_skip (by decide) ?_))
 refine ex_hit ?_
 refine ex_norm ?_
 apply_assumption
 refine wp_mono (Q := Out ?outB) ?outM (out_mono ?outR ?outP)
 case outR => intro a w h; (repeat (first | (with_reducible refine rt_then ?_) | (with_reducible refine rt_blk ?_))); exact h
 case outP => intro c a w h; (repeat (first | (with_reducible refine pn_then ?_) | (with_reducible refine pn_blk ?_))); exact h
 try simp only [hW0]
 go_wp2_with fail
 try rw [hW0]
 refine cI.mono ?_
 intro e W2 hA
 clear cI
 cases U with
 | error c =>
  obtain ⟨rfl, hb1⟩ := hA
  exact ⟨rfl, rfl, HB.out.trans (hb1.mono HB.out.size)⟩
 | ok y =>
  obtain ⟨rfl, hb2⟩ := hA
  have HR1 := HR
  have HB1 := HB
  clear HR HB
  have hr := (hb2.block (w.heap.size + 2) (by omega)).trans HR1.out
  have HB2 := hid (HB1.out.trans (hb2.mono HB1.out.size))
  clear hb2 HB1 HR1
  obtain ⟨r0, r1, r2, r3, r4, r5⟩ := six_box hr
  obtain ⟨rf0, rf1, rf2, rf3, rf4, rf5⟩ := Base.frz6 hr
  go_wp2_with fail
  obtain ⟨W9, hW9⟩ := stc6 W2 (w.heap.size + 2) (.int .i64 3) (.bool false) (.int .i64 y) (.string ⟨#[]⟩) (.slice none 0 0) (.slice none 0 0)
  rw [hW9]
  obtain ⟨q1, q2, q3, q4⟩ := set6 _ _ _ _ _ _ hr hW9
  first | refine out_ret (results_cell_row rfl _ W9 (w.heap.size + 2) 26 _ (0, 0) _ rfl q1 underlying26 rfl (by kernel_rfl)) rfl ?_ | refine bodyPost_ret (results_cell_row rfl _ W9 (w.heap.size + 2) 26 _ (0, 0) _ rfl q1 underlying26 rfl (by kernel_rfl)) rfl ?_
  exact ⟨rfl, q4 _ _ (by omega) HB2.out⟩
theorem pair_21 (k1 : Int) (b1 : Bool) (i1 : Int) (s1 : ByteArray) (n1 l1 : Value) (k2 : Int) (b2 : Bool) (i2 : Int) (s2 : ByteArray) (n2 l2 : Value) (w : World) :
  Calls prog 94 #[.int .i64 21, vl k1 b1 i1 s1 n1 l1, vl k2 b2 i2 s2 n2 l2] w fun e w' => An w w' e (fun c : Int => v0 3 false c ⟨#[]⟩) (twX k1 k2 (bit 21 i1 i2)) := by
 obtain ⟨W0, hW0, hs0, hb0, hp, hq, hr⟩ := two3 w #[.int .i64 k1, .bool b1, .int .i64 i1, .string s1, n1, l1] #[.int .i64 k2, .bool b2, .int .i64 i2, .string s2, n2, l2]
 have HR := hid hr
 have HB := hid hb0
 obtain ⟨p0, p1, p2, p3, p4, p5⟩ := six_box hp
 obtain ⟨q0, q1, q2, q3, q4, q5⟩ := six_box hq
 have cI := bits_21 k1 b1 i1 s1 n1 l1 k2 b2 i2 s2 n2 l2 W0
 obtain ⟨U, hU⟩ : ∃ U, twX k1 k2 (bit 21 i1 i2) = U := ⟨_, rfl⟩
 rw [hU] at cI ⊢
 clear hp hq hb0 hr hU
 go_enter func94, ntmps94
 go_upto_if 31 with fail
 refine wp_cond_false (by rfl) ?_
 go_upto_if 31 with fail
 refine wp_cond_true (by rfl) ?_
 refine wp_skip ?_
 refine ex_norm ?_
 apply_assumption
 go_upto_if 31 with fail
 refine wp_cond_true (by rfl) ?_
 refine wp_exit ?_
 repeat (first | (with_reducible refine ex_then ?_) | (with_reducible refine ex_skip (by decide) ?_))
 refine ex_hit ?_
 refine ex_norm ?_
 apply_assumption
 refine wp_mono (Q := Out ?outB) ?outM (out_mono ?outR ?outP)
 case outR => intro a w h; (repeat (first | (with_reducible refine rt_then ?_) | (with_reducible refine rt_blk ?_))); exact h
 case outP => intro c a w h; (repeat (first | (with_reducible refine pn_then ?_) | (with_reducible refine pn_blk ?_))); exact h
 try simp only [hW0]
 go_wp2_with fail
 try rw [hW0]
 refine cI.mono ?_
 intro e W2 hA
 clear cI
 cases U with
 | error c =>
  obtain ⟨rfl, hb1⟩ := hA
  exact ⟨rfl, rfl, HB.out.trans (hb1.mono HB.out.size)⟩
 | ok y =>
  obtain ⟨rfl, hb2⟩ := hA
  have HR1 := HR
  have HB1 := HB
  clear HR HB
  have hr := (hb2.block (w.heap.size + 2) (by omega)).trans HR1.out
  have HB2 := hid (HB1.out.trans (hb2.mono HB1.out.size))
  clear hb2 HB1 HR1
  obtain ⟨r0, r1, r2, r3, r4, r5⟩ := six_box hr
  obtain ⟨rf0, rf1, rf2, rf3, rf4, rf5⟩ := Base.frz6 hr
  go_wp2_with fail
  obtain ⟨W9, hW9⟩ := stc6 W2 (w.heap.size + 2) (.int .i64 3) (.bool false) (.int .i64 y) (.string ⟨#[]⟩) (.slice none 0 0) (.slice none 0 0)
  rw [hW9]
  obtain ⟨q1, q2, q3, q4⟩ := set6 _ _ _ _ _ _ hr hW9
  first | refine out_ret (results_cell_row rfl _ W9 (w.heap.size + 2) 26 _ (0, 0) _ rfl q1 underlying26 rfl (by kernel_rfl)) rfl ?_ | refine bodyPost_ret (results_cell_row rfl _ W9 (w.heap.size + 2) 26 _ (0, 0) _ rfl q1 underlying26 rfl (by kernel_rfl)) rfl ?_
  exact ⟨rfl, q4 _ _ (by omega) HB2.out⟩
theorem pair_22 (k1 : Int) (b1 : Bool) (i1 : Int) (s1 : ByteArray) (n1 l1 : Value) (k2 : Int) (b2 : Bool) (i2 : Int) (s2 : ByteArray) (n2 l2 : Value) (w : World) :
  Calls prog 94 #[.int .i64 22, vl k1 b1 i1 s1 n1 l1, vl k2 b2 i2 s2 n2 l2] w fun e w' => An w w' e (fun c : Int => v0 3 false c ⟨#[]⟩) (twX k1 k2 (bit 22 i1 i2)) := by
 obtain ⟨W0, hW0, hs0, hb0, hp, hq, hr⟩ := two3 w #[.int .i64 k1, .bool b1, .int .i64 i1, .string s1, n1, l1] #[.int .i64 k2, .bool b2, .int .i64 i2, .string s2, n2, l2]
 have HR := hid hr
 have HB := hid hb0
 obtain ⟨p0, p1, p2, p3, p4, p5⟩ := six_box hp
 obtain ⟨q0, q1, q2, q3, q4, q5⟩ := six_box hq
 have cI := bits_22 k1 b1 i1 s1 n1 l1 k2 b2 i2 s2 n2 l2 W0
 obtain ⟨U, hU⟩ : ∃ U, twX k1 k2 (bit 22 i1 i2) = U := ⟨_, rfl⟩
 rw [hU] at cI ⊢
 clear hp hq hb0 hr hU
 go_enter func94, ntmps94
 go_upto_if 31 with fail
 refine wp_cond_false (by rfl) ?_
 go_upto_if 31 with fail
 refine wp_cond_false (by rfl) ?_
 go_upto_if 31 with fail
 refine wp_cond_true (by rfl) ?_
 refine wp_exit ?_
 repeat (first | (with_reducible refine ex_then ?_) | (with_reducible refine ex_skip (by decide) ?_))
 refine ex_hit ?_
 refine ex_norm ?_
 apply_assumption
 refine wp_mono (Q := Out ?outB) ?outM (out_mono ?outR ?outP)
 case outR => intro a w h; (repeat (first | (with_reducible refine rt_then ?_) | (with_reducible refine rt_blk ?_))); exact h
 case outP => intro c a w h; (repeat (first | (with_reducible refine pn_then ?_) | (with_reducible refine pn_blk ?_))); exact h
 try simp only [hW0]
 go_wp2_with fail
 try rw [hW0]
 refine cI.mono ?_
 intro e W2 hA
 clear cI
 cases U with
 | error c =>
  obtain ⟨rfl, hb1⟩ := hA
  exact ⟨rfl, rfl, HB.out.trans (hb1.mono HB.out.size)⟩
 | ok y =>
  obtain ⟨rfl, hb2⟩ := hA
  have HR1 := HR
  have HB1 := HB
  clear HR HB
  have hr := (hb2.block (w.heap.size + 2) (by omega)).trans HR1.out
  have HB2 := hid (HB1.out.trans (hb2.mono HB1.out.size))
  clear hb2 HB1 HR1
  obtain ⟨r0, r1, r2, r3, r4, r5⟩ := six_box hr
  obtain ⟨rf0, rf1, rf2, rf3, rf4, rf5⟩ := Base.frz6 hr
  go_wp2_with fail
  obtain ⟨W9, hW9⟩ := stc6 W2 (w.heap.size + 2) (.int .i64 3) (.bool false) (.int .i64 y) (.string ⟨#[]⟩) (.slice none 0 0) (.slice none 0 0)
  rw [hW9]
  obtain ⟨q1, q2, q3, q4⟩ := set6 _ _ _ _ _ _ hr hW9
  first | refine out_ret (results_cell_row rfl _ W9 (w.heap.size + 2) 26 _ (0, 0) _ rfl q1 underlying26 rfl (by kernel_rfl)) rfl ?_ | refine bodyPost_ret (results_cell_row rfl _ W9 (w.heap.size + 2) 26 _ (0, 0) _ rfl q1 underlying26 rfl (by kernel_rfl)) rfl ?_
  exact ⟨rfl, q4 _ _ (by omega) HB2.out⟩
theorem pair_11 (k1 : Int) (b1 : Bool) (i1 : Int) (s1 : ByteArray) (n1 l1 : Value) (k2 : Int) (b2 : Bool) (i2 : Int) (s2 : ByteArray) (n2 l2 : Value) (w : World) :
  Calls prog 94 #[.int .i64 11, vl k1 b1 i1 s1 n1 l1, vl k2 b2 i2 s2 n2 l2] w fun e w' => An w w' e (fun c : Bool => v0 2 c 0 ⟨#[]⟩) (if k1 = 2 then .ok (!b1) else .error 1101) := by
 obtain ⟨W0, hW0, hs0, hb0, hp, hq, hr⟩ := two3 w #[.int .i64 k1, .bool b1, .int .i64 i1, .string s1, n1, l1] #[.int .i64 k2, .bool b2, .int .i64 i2, .string s2, n2, l2]
 have HR := hid hr
 have HB := hid hb0
 obtain ⟨p0, p1, p2, p3, p4, p5⟩ := six_box hp
 obtain ⟨q0, q1, q2, q3, q4, q5⟩ := six_box hq
 have cI := isTrue_c k1 b1 i1 s1 n1 l1 W0
 have cT := truth_c (!b1)
 obtain ⟨B, hB⟩ : ∃ B, (!b1) = B := ⟨_, rfl⟩
 rw [hB] at cT ⊢
 obtain ⟨U, hU⟩ : ∃ U, (if k1 = 2 then (.ok B : Except Nat Bool) else .error 1101) = U := ⟨_, rfl⟩
 rw [hU]
 clear hp hq hb0 hr
 go_enter func94, ntmps94
 go_upto_if 13 with fail
 refine wp_cond_true (by rfl) ?_
 refine wp_exit ?_
 repeat (first | (with_reducible refine ex_then ?_) | (with_reducible refine ex_skip (by decide) ?_))
 refine ex_hit ?_
 refine ex_norm ?_
 apply_assumption
 refine wp_mono (Q := Out ?outB) ?outM (out_mono ?outR ?outP)
 case outR => intro a w h; (repeat (first | (with_reducible refine rt_then ?_) | (with_reducible refine rt_blk ?_))); exact h
 case outP => intro c a w h; (repeat (first | (with_reducible refine pn_then ?_) | (with_reducible refine pn_blk ?_))); exact h
 try simp only [hW0]
 go_wp2_with fail
 try rw [hW0]
 refine cI.mono ?_
 intro e W1 hA
 clear cI
 by_cases h1 : k1 = 2
 ·rw [if_pos h1] at hA hU
  obtain ⟨rfl, hb1⟩ := hA
  have HR1 := hid ((hb1.block (w.heap.size + 2) (by omega)).trans HR.out)
  have hs1 := hb1.size
  have HB1 := hid (HB.out.trans (hb1.mono HB.out.size))
  clear hb1 HR HB p0 p1 p2 p3 p4 p5 q0 q1 q2 q3 q4 q5 h1
  have HU := hid hU
  clear hU
  go_wp2_with fail
  refine (cT _).mono ?_
  rintro e W2 ⟨rfl, hb2⟩
  clear cT
  have hr := (hb2.block (w.heap.size + 2) (by omega)).trans HR1.out
  have HB2 := hid (HB1.out.trans (hb2.mono HB1.out.size))
  clear hb2 HB1 HR1
  obtain ⟨r0, r1, r2, r3, r4, r5⟩ := six_box hr
  obtain ⟨rf0, rf1, rf2, rf3, rf4, rf5⟩ := Base.frz6 hr
  go_wp2_with fail
  obtain ⟨W9, hW9⟩ := stc6 W2 (w.heap.size + 2) (.int .i64 2) (.bool B) (.int .i64 0) (.string ⟨#[]⟩) (.slice none 0 0) (.slice none 0 0)
  rw [hW9]
  obtain ⟨q1, q2, q3, q4⟩ := set6 _ _ _ _ _ _ hr hW9
  first | refine out_ret (results_cell_row rfl _ W9 (w.heap.size + 2) 26 _ (0, 0) _ rfl q1 underlying26 rfl (by kernel_rfl)) rfl ?_ | refine bodyPost_ret (results_cell_row rfl _ W9 (w.heap.size + 2) 26 _ (0, 0) _ rfl q1 underlying26 rfl (by kernel_rfl)) rfl ?_
  rw [<- HU.out]
  exact ⟨rfl, q4 _ _ (by omega) HB2.out⟩
 ·rw [if_neg h1] at hA hU
  obtain ⟨rfl, hb1⟩ := hA
  subst hU
  exact ⟨rfl, rfl, HB.out.trans (hb1.mono HB.out.size)⟩
end Go.Proofs.YtiijfmdfccdagaaGreatDoor.VBi

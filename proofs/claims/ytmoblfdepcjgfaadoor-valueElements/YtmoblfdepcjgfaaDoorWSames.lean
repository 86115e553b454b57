/- For every two values the law ValueSames returns true: Same answers as the document says, turned round and with itself, and both values stay; conditions: the tables of the library hold what they are laid with. -/
import Derived.Test.YtmoblfdepcjgfaaDoorAwake
import Derived.Test.YtmoblfdepcjgfaaDoorLendV
import Derived.Test.YtmoblfdepcjgfaaDoorKeptV
import Derived.Test.YtmoblfdepcjgfaaDoorCopyV
import Derived.Test.YtmoblfdepcjgfaaDoorRSame
import Derived.Deep.RegionHeld3
namespace Go.Proofs.YtmoblfdepcjgfaaDoor.WSames
open Go.RowKit Go.Proofs.YtmoblfdepcjgfaaDoor.Base Go.Proofs.YtmoblfdepcjgfaaDoor.Digits Go.Proofs.YtmoblfdepcjgfaaDoor.Facts Go.Proofs.YtmoblfdepcjgfaaDoor.Shallow Go.Proofs.YtmoblfdepcjgfaaDoor.Awake Go.Proofs.YtmoblfdepcjgfaaDoor.Eq Go.Proofs.YtmoblfdepcjgfaaDoor.Same Go.Proofs.YtmoblfdepcjgfaaDoor.RSame Go.Proofs.YtmoblfdepcjgfaaDoor.LendV Go.Proofs.YtmoblfdepcjgfaaDoor.KeptV Go.Proofs.YtmoblfdepcjgfaaDoor.CopyV
set_option linter.unusedVariables false

theorem eqB_comm (a b : ByteArray) : eqB a b = eqB b a := by
  rw [Bool.eq_iff_iff, eqB_eq, eqB_eq]
  exact eq_comm
theorem eqN_comm : ∀ (L M : List ByteArray), eqN L M = eqN M L
  | [], [] => rfl
  | [], _ :: _ => rfl
  | _ :: _, [] => rfl
  | a :: as', b :: bs => by rw [eqN, eqN, eqB_comm a b, eqN_comm as' bs]
theorem same_comm : ∀ (n : Nat) (c d : C), dep c ≤ n → same c d = same d c := by
  intro n
  induction n with
  | zero =>
    intro c d h
    obtain ⟨k, b, i, s, n, l⟩ := c
    simp [dep] at h
  | succ m ih =>
    intro c d h
    obtain ⟨k, b, i, s, n, l⟩ := c
    obtain ⟨k', b', i', s', n', l'⟩ := d
    have hl : ∀ (L M : List C), depL L ≤ m → sameL L M = sameL M L := by
      intro L
      induction L with
      | nil => intro M _; cases M <;> simp [sameL]
      | cons x xs ihx =>
        intro M hM
        cases M with
        | nil => simp [sameL]
        | cons y ys =>
          rw [depL_cons, Nat.max_le] at hM
          rw [sameL_cons, sameL_cons, ih x y hM.1, ihx ys hM.2]
    have hll := hl l l' (by rw [dep] at h; omega)
    by_cases e : k = k'
    · subst e
      rw [same, same, hll, eqN_comm n n', eqB_comm s s', Bool.beq_comm (a := b), BEq.comm (a := i)]
    · have e' : ¬ k' = k := fun x => e x.symm
      simp [same, e, e']
theorem eqN_self : ∀ (L : List ByteArray), eqN L L = true
  | [] => rfl
  | a :: l => by
    rw [eqN, eqN_self l, eqB_eq.2 rfl]; rfl
theorem same_self : ∀ (n : Nat) (c : C), dep c ≤ n → same c c = true := by
  intro n
  induction n with
  | zero =>
    intro c h
    obtain ⟨k, b, i, s, n, l⟩ := c
    simp [dep] at h
  | succ m ih =>
    intro c h
    obtain ⟨k, b, i, s, n, l⟩ := c
    have hl : ∀ (L : List C), depL L ≤ m → sameL L L = true := by
      intro L
      induction L with
      | nil => intro _; simp [sameL]
      | cons x xs ihx =>
        intro hM
        rw [depL_cons, Nat.max_le] at hM
        rw [sameL_cons, ih x hM.1, ihx hM.2]; rfl
    have hll := hl l (by rw [dep] at h; omega)
    rw [same, hll, eqN_self n, eqB_eq.2 rfl]
    simp

set_option maxRecDepth 20000 in
set_option maxHeartbeats 3200000 in
theorem walk {m m' : Nat} {v v' : Value} {c d : C} {w : World} (h : In false All w m v c) (h' : In false All w m' v' d) (ht : Tab w) : Calls Tryd.prog 4 #[v, v'] w fun e w' => e = .returned (.bool true) ∧ Below w.heap.size w w' := by
  obtain ⟨v0, v1, v2, v3, v4, v5, rfl, -⟩ := h.six
  obtain ⟨a1, n1, c1, a2, n2, c2, rfl, rfl, rfl, rfl, rfl, rfl⟩ := h.kinds
  obtain ⟨v0, v1, v2, v3, v4, v5, rfl, -⟩ := h'.six
  obtain ⟨p1, q1, r1, p2, q2, r2, rfl, rfl, rfl, rfl, rfl, rfl⟩ := h'.kinds
  obtain ⟨k, hk⟩ : ∃ k, c.k = k := ⟨_, rfl⟩
  obtain ⟨b, hb⟩ : ∃ b, c.b = b := ⟨_, rfl⟩
  obtain ⟨i, hi⟩ : ∃ i, c.i = i := ⟨_, rfl⟩
  obtain ⟨s, hs⟩ : ∃ s, c.s = s := ⟨_, rfl⟩
  obtain ⟨k', hk'⟩ : ∃ k, d.k = k := ⟨_, rfl⟩
  obtain ⟨b', hb'⟩ : ∃ b, d.b = b := ⟨_, rfl⟩
  obtain ⟨i', hi'⟩ : ∃ i, d.i = i := ⟨_, rfl⟩
  obtain ⟨s', hs'⟩ : ∃ s, d.s = s := ⟨_, rfl⟩
  rw [hk, hb, hi, hs] at h
  rw [hk', hb', hi', hs'] at h'
  rw [hk, hb, hi, hs, hk', hb', hi', hs']
  obtain ⟨W0, hW0⟩ : ∃ W0, (w.alloc (.cells #[.int .i64 k, .bool b, .int .i64 i, .string s, .slice a1 n1 c1, .slice a2 n2 c2] 25)).alloc (.cells #[.int .i64 k', .bool b', .int .i64 i', .string s', .slice p1 q1 r1, .slice p2 q2 r2] 25) = W0 := ⟨_, rfl⟩
  have b0 : Below w.heap.size w W0 := by rw [← hW0]; exact ((Below.refl _ w).alloc (Nat.le_refl _) _).alloc (by simp) _
  have hs0 : w.heap.size < W0.heap.size := by rw [← hW0]; simp; omega
  have hs1 : w.heap.size + 1 < W0.heap.size := by rw [← hW0]; simp
  have hx0 : W0.heap[w.heap.size]? = some (.cells #[.int .i64 k, .bool b, .int .i64 i, .string s, .slice a1 n1 c1, .slice a2 n2 c2] 25 (0, 0)) := by
    rw [← hW0, Below.heap_alloc _ _ _ (by simp), heap_alloc_new]
  have hx1 : W0.heap[w.heap.size + 1]? = some (.cells #[.int .i64 k', .bool b', .int .i64 i', .string s', .slice p1 q1 r1, .slice p2 q2 r2] 25 (0, 0)) := by
    have := heap_alloc_new (w.alloc (.cells #[.int .i64 k, .bool b, .int .i64 i, .string s, .slice a1 n1 c1, .slice a2 n2 c2] 25)) (.cells #[.int .i64 k', .bool b', .int .i64 i', .string s', .slice p1 q1 r1, .slice p2 q2 r2] 25)
    rwa [hW0, World.size_alloc] at this
  have HA : Hid (∀ w', Below W0.heap.size W0 w' → In false All w' m (.agg #[.int .i64 k, .bool b, .int .i64 i, .string s, .slice a1 n1 c1, .slice a2 n2 c2]) c) := fun w' hb' => (h.below b0).below hb'
  have HB : Hid (∀ w', Below W0.heap.size W0 w' → In false All w' m' (.agg #[.int .i64 k', .bool b', .int .i64 i', .string s', .slice p1 q1 r1, .slice p2 q2 r2]) d) := fun w' hb' => (h'.below b0).below hb'
  have XA : Hid (∀ w', Below W0.heap.size W0 w' → w'.heap[w.heap.size]? = some (.cells #[.int .i64 k, .bool b, .int .i64 i, .string s, .slice a1 n1 c1, .slice a2 n2 c2] 25 (0, 0))) := fun w' hb' => (hb'.block _ hs0).trans hx0
  have XB : Hid (∀ w', Below W0.heap.size W0 w' → w'.heap[w.heap.size + 1]? = some (.cells #[.int .i64 k', .bool b', .int .i64 i', .string s', .slice p1 q1 r1, .slice p2 q2 r2] 25 (0, 0))) := fun w' hb' => (hb'.block _ hs1).trans hx1
  have ht0 := ht.later b0
  have c9 := shallow_c m _ c W0 (HA.out W0 (Below.refl _ _))
  obtain ⟨k0, k1, k2, k3, k4, k5⟩ := six_box hx0
  clear h h' ht hx0 hx1
  go_enter Tryd.func4, Tryd.ntmps4
  go_wp2_with fail
  refine c9.mono ?_
  rintro e w2 ⟨rfl, B2⟩
  clear c9 k0 k1 k2 k3 k4 k5 hW0
  cases hd : decide (dep c ≤ 4096) with
  | false =>
    go_wp2_with fail
    go_ret
    exact ⟨rfl, nx b0 B2⟩
  | true =>
  have c9 := shallow_c m' _ d w2 (HB.out w2 B2)
  obtain ⟨k0, k1, k2, k3, k4, k5⟩ := six_box (XB.out w2 B2)
  go_wp2_with fail
  refine c9.mono ?_
  rintro e w3 ⟨rfl, b3⟩
  have B3 : Below W0.heap.size W0 w3 := nx B2 b3
  clear c9 k0 k1 k2 k3 k4 k5
  cases hd' : decide (dep d ≤ 4096) with
  | false =>
    go_wp2_with fail
    go_ret
    exact ⟨rfl, nx b0 B3⟩
  | true =>
  have c10 := lendV_c m _ c w3 (HA.out w3 B3)
  obtain ⟨k0, k1, k2, k3, k4, k5⟩ := six_box (XA.out w3 B3)
  go_wp2_with fail
  refine c10.mono ?_
  rintro e w4 ⟨u, rfl, hx, b4⟩
  obtain ⟨y0, y1, y2, y3, y4, y5, rfl, -⟩ := hx.six
  obtain ⟨e1, f1, g1, e2, f2, g2, rfl, rfl, rfl, rfl, rfl, rfl⟩ := hx.kinds
  rw [hk, hb, hi, hs] at hx
  rw [hk, hb, hi, hs]
  clear c10 k0 k1 k2 k3 k4 k5
  have B4 : Below W0.heap.size W0 w4 := nx B3 b4
  obtain ⟨W5, hW5⟩ : ∃ W5, w4.alloc (.cells #[.int .i64 k, .bool b, .int .i64 i, .string s, .slice e1 f1 g1, .slice e2 f2 g2] 25) = W5 := ⟨_, rfl⟩
  have b5 : Below w4.heap.size w4 W5 := by rw [← hW5]; exact (Below.refl _ w4).alloc (Nat.le_refl _) _
  have hs5 : w4.heap.size < W5.heap.size := by rw [← hW5]; simp
  have hx5 : W5.heap[w4.heap.size]? = some (.cells #[.int .i64 k, .bool b, .int .i64 i, .string s, .slice e1 f1 g1, .slice e2 f2 g2] 25 (0, 0)) := by rw [← hW5, heap_alloc_new]
  have B5 : Below W0.heap.size W0 W5 := nx B4 b5
  have HX : Hid (∀ w', Below W5.heap.size W5 w' → In true (Rg w3.heap.size w4.heap.size) w' m (.agg #[.int .i64 k, .bool b, .int .i64 i, .string s, .slice e1 f1 g1, .slice e2 f2 g2]) c) := fun w' hb' => (hx.below b5).below hb'
  have HXB : Hid (∀ w', Below W5.heap.size W5 w' → w'.heap[w4.heap.size]? = some (.cells #[.int .i64 k, .bool b, .int .i64 i, .string s, .slice e1 f1 g1, .slice e2 f2 g2] 25 (0, 0))) := fun w' hb' => (hb'.block _ hs5).trans hx5
  have c10 := lendV_c m' _ d W5 (HB.out W5 B5)
  obtain ⟨k0, k1, k2, k3, k4, k5⟩ := six_box (XB.out W5 B5)
  clear hx hx5
  go_wp2_with fail
  refine c10.mono ?_
  rintro e w6 ⟨u, rfl, hx, b6⟩
  obtain ⟨y0, y1, y2, y3, y4, y5, rfl, -⟩ := hx.six
  obtain ⟨x1, y1, z1, x2, y2, z2, rfl, rfl, rfl, rfl, rfl, rfl⟩ := hx.kinds
  rw [hk', hb', hi', hs'] at hx
  rw [hk', hb', hi', hs']
  clear c10 k0 k1 k2 k3 k4 k5 hk hb hi hs hk' hb' hi' hs' hW5
  obtain ⟨W7, hW7⟩ : ∃ W7, w6.alloc (.cells #[.int .i64 k', .bool b', .int .i64 i', .string s', .slice x1 y1 z1, .slice x2 y2 z2] 25) = W7 := ⟨_, rfl⟩
  have b7 : Below w6.heap.size w6 W7 := by rw [← hW7]; exact (Below.refl _ w6).alloc (Nat.le_refl _) _
  have hs7 : w6.heap.size < W7.heap.size := by rw [← hW7]; simp
  have hx7 : W7.heap[w6.heap.size]? = some (.cells #[.int .i64 k', .bool b', .int .i64 i', .string s', .slice x1 y1 z1, .slice x2 y2 z2] 25 (0, 0)) := by rw [← hW7, heap_alloc_new]
  have B57 : Below W5.heap.size W5 W7 := nx b6 b7
  have HY : Hid (∀ w', Below W7.heap.size W7 w' → In true (Rg W5.heap.size w6.heap.size) w' m' (.agg #[.int .i64 k', .bool b', .int .i64 i', .string s', .slice x1 y1 z1, .slice x2 y2 z2]) d) := fun w' hb' => (hx.below b7).below hb'
  have HYB : Hid (∀ w', Below W7.heap.size W7 w' → w'.heap[w6.heap.size]? = some (.cells #[.int .i64 k', .bool b', .int .i64 i', .string s', .slice x1 y1 z1, .slice x2 y2 z2] 25 (0, 0))) := fun w' hb' => (hb'.block _ hs7).trans hx7
  have c20 := same_c ((HX.out W7 B57).plain) ((HY.out W7 (Below.refl _ _)).plain)
  obtain ⟨k0, k1, k2, k3, k4, k5⟩ := six_box (HXB.out W7 B57)
  obtain ⟨l0, l1, l2, l3, l4, l5⟩ := six_box hx7
  have e1' := same_comm _ d c (of_decide_eq_true hd')
  have e2' := same_self _ c (of_decide_eq_true hd)
  clear hx hx7
  go_wp2_with fail
  refine c20.mono ?_
  rintro e w9 ⟨rfl, b9⟩
  clear c20 k0 k1 k2 k3 k4 k5 l0 l1 l2 l3 l4 l5 hW7
  have B59 : Below W5.heap.size W5 w9 := nx B57 b9
  have B9 : Below W0.heap.size W0 w9 := nx B5 B59
  have SS : Hid (∀ w2, Below w9.heap.size w9 w2 → (w2.cell? ⟨w.heap.size, 0, none⟩ = some (.int .i64 k) ∧ w2.cell? ⟨w.heap.size, 1, none⟩ = some (.bool b) ∧ w2.cell? ⟨w.heap.size, 2, none⟩ = some (.int .i64 i) ∧ w2.cell? ⟨w.heap.size, 3, none⟩ = some (.string s) ∧ w2.cell? ⟨w.heap.size, 4, none⟩ = some (.slice a1 n1 c1) ∧ w2.cell? ⟨w.heap.size, 5, none⟩ = some (.slice a2 n2 c2) ∧ w2.cell? ⟨w.heap.size + 1, 0, none⟩ = some (.int .i64 k') ∧ w2.cell? ⟨w.heap.size + 1, 1, none⟩ = some (.bool b') ∧ w2.cell? ⟨w.heap.size + 1, 2, none⟩ = some (.int .i64 i') ∧ w2.cell? ⟨w.heap.size + 1, 3, none⟩ = some (.string s') ∧ w2.cell? ⟨w.heap.size + 1, 4, none⟩ = some (.slice p1 q1 r1) ∧ w2.cell? ⟨w.heap.size + 1, 5, none⟩ = some (.slice p2 q2 r2) ∧ w2.cell? ⟨w4.heap.size, 0, none⟩ = some (.int .i64 k) ∧ w2.cell? ⟨w4.heap.size, 1, none⟩ = some (.bool b) ∧ w2.cell? ⟨w4.heap.size, 2, none⟩ = some (.int .i64 i) ∧ w2.cell? ⟨w4.heap.size, 3, none⟩ = some (.string s) ∧ w2.cell? ⟨w4.heap.size, 4, none⟩ = some (.slice e1 f1 g1) ∧ w2.cell? ⟨w4.heap.size, 5, none⟩ = some (.slice e2 f2 g2) ∧ w2.cell? ⟨w6.heap.size, 0, none⟩ = some (.int .i64 k') ∧ w2.cell? ⟨w6.heap.size, 1, none⟩ = some (.bool b') ∧ w2.cell? ⟨w6.heap.size, 2, none⟩ = some (.int .i64 i') ∧ w2.cell? ⟨w6.heap.size, 3, none⟩ = some (.string s') ∧ w2.cell? ⟨w6.heap.size, 4, none⟩ = some (.slice x1 y1 z1) ∧ w2.cell? ⟨w6.heap.size, 5, none⟩ = some (.slice x2 y2 z2))) := by
    intro w2 hb
    obtain ⟨k0, k1, k2, k3, k4, k5⟩ := six_box (XA.out w2 (nx B9 hb))
    obtain ⟨l0, l1, l2, l3, l4, l5⟩ := six_box (XB.out w2 (nx B9 hb))
    obtain ⟨m0, m1, m2, m3, m4, m5⟩ := six_box (HXB.out w2 (nx B59 hb))
    obtain ⟨o0, o1, o2, o3, o4, o5⟩ := six_box (HYB.out w2 (nx b9 hb))
    exact ⟨k0, k1, k2, k3, k4, k5, l0, l1, l2, l3, l4, l5, m0, m1, m2, m3, m4, m5, o0, o1, o2, o3, o4, o5⟩
  have c21 : Hid (∀ w', Below w9.heap.size w9 w' → Calls Tryd.prog 21 #[.agg #[.int .i64 k, .bool b, .int .i64 i, .string s, .slice a1 n1 c1, .slice a2 n2 c2], .agg #[.int .i64 k', .bool b', .int .i64 i', .string s', .slice p1 q1 r1, .slice p2 q2 r2]] w' fun e w2 => e = .returned (.bool (same c d)) ∧ Below w'.heap.size w' w2) := fun w' hb => rsame_c (HA.out w' (nx B9 hb)) (HB.out w' (nx B9 hb))
  have c20 : Hid (∀ w', Below w9.heap.size w9 w' → Calls Tryd.prog 20 #[.agg #[.int .i64 k', .bool b', .int .i64 i', .string s', .slice x1 y1 z1, .slice x2 y2 z2], .agg #[.int .i64 k, .bool b, .int .i64 i, .string s, .slice e1 f1 g1, .slice e2 f2 g2]] w' fun e w2 => e = .returned (.bool (same c d)) ∧ Below w'.heap.size w' w2) := fun w' hb => by
    rw [← e1']; exact same_c ((HY.out w' (nx b9 hb)).plain) ((HX.out w' (nx B59 hb)).plain)
  have c22 : Hid (∀ w', Below w9.heap.size w9 w' → Calls Tryd.prog 22 #[.agg #[.int .i64 k, .bool b, .int .i64 i, .string s, .slice a1 n1 c1, .slice a2 n2 c2]] w' fun e w2 => ∃ u, e = .returned u ∧ Hid (In false All w2 m u c) ∧ Below w'.heap.size w' w2) := fun w' hb => by
    refine (copyV_c m _ c w' (HA.out w' (nx B9 hb))).mono ?_
    rintro e w2 ⟨u, rfl, hu, hb2⟩
    exact ⟨u, rfl, hu.plain, hb2⟩
  have c20s : Hid (∀ w' u, Below w9.heap.size w9 w' → In false All w' m u c → Calls Tryd.prog 20 #[.agg #[.int .i64 k, .bool b, .int .i64 i, .string s, .slice e1 f1 g1, .slice e2 f2 g2], u] w' fun e w2 => e = .returned (.bool true) ∧ Below w'.heap.size w' w2) := fun w' u hb hu => by
    rw [← e2']; exact same_c ((HX.out w' (nx B59 hb)).plain) hu
  have c18 : Hid (∀ w', Below w9.heap.size w9 w' → Calls Tryd.prog 18 #[.agg #[.int .i64 k, .bool b, .int .i64 i, .string s, .slice e1 f1 g1, .slice e2 f2 g2], .agg #[.int .i64 k, .bool b, .int .i64 i, .string s, .slice a1 n1 c1, .slice a2 n2 c2]] w' fun e w2 => e = .returned (.bool true) ∧ Below w'.heap.size w' w2) := fun w' hb => keptV_c m _ _ c w' (HX.out w' (nx B59 hb)) (HA.out w' (nx B9 hb))
  have c18' : Hid (∀ w', Below w9.heap.size w9 w' → Calls Tryd.prog 18 #[.agg #[.int .i64 k', .bool b', .int .i64 i', .string s', .slice x1 y1 z1, .slice x2 y2 z2], .agg #[.int .i64 k', .bool b', .int .i64 i', .string s', .slice p1 q1 r1, .slice p2 q2 r2]] w' fun e w2 => e = .returned (.bool true) ∧ Below w'.heap.size w' w2) := fun w' hb => keptV_c m' _ _ d w' (HY.out w' (nx b9 hb)) (HB.out w' (nx B9 hb))
  have c19 : Hid (∀ w', Below w9.heap.size w9 w' → Calls Tryd.prog 19 #[] w' fun e w2 => e = .returned (.bool true) ∧ Below w'.heap.size w' w2) := fun w' hb => awake_c w' (ht0.later (nx B9 hb))
  have BW : Below w.heap.size w w9 := nx b0 B9
  have HD : Hid (Below w9.heap.size w9 w9.drew) := (Below.refl w9.heap.size w9).drew
  generalize same c d = Q at *
  clear HA HB XA XB HX HXB HY HYB b9 B59 B9 B57 b7 b6 B5 b5 B4 b4 B3 b3 B2 b0 ht0 e1' e2'
  go_wp2_with fail
  refine wp_region_held_drew (S := fun w' => w'.cell? ⟨w.heap.size, 0, none⟩ = some (.int .i64 k) ∧ w'.cell? ⟨w.heap.size, 1, none⟩ = some (.bool b) ∧ w'.cell? ⟨w.heap.size, 2, none⟩ = some (.int .i64 i) ∧ w'.cell? ⟨w.heap.size, 3, none⟩ = some (.string s) ∧ w'.cell? ⟨w.heap.size, 4, none⟩ = some (.slice a1 n1 c1) ∧ w'.cell? ⟨w.heap.size, 5, none⟩ = some (.slice a2 n2 c2) ∧ w'.cell? ⟨w.heap.size + 1, 0, none⟩ = some (.int .i64 k') ∧ w'.cell? ⟨w.heap.size + 1, 1, none⟩ = some (.bool b') ∧ w'.cell? ⟨w.heap.size + 1, 2, none⟩ = some (.int .i64 i') ∧ w'.cell? ⟨w.heap.size + 1, 3, none⟩ = some (.string s') ∧ w'.cell? ⟨w.heap.size + 1, 4, none⟩ = some (.slice p1 q1 r1) ∧ w'.cell? ⟨w.heap.size + 1, 5, none⟩ = some (.slice p2 q2 r2) ∧ w'.cell? ⟨w4.heap.size, 0, none⟩ = some (.int .i64 k) ∧ w'.cell? ⟨w4.heap.size, 1, none⟩ = some (.bool b) ∧ w'.cell? ⟨w4.heap.size, 2, none⟩ = some (.int .i64 i) ∧ w'.cell? ⟨w4.heap.size, 3, none⟩ = some (.string s) ∧ w'.cell? ⟨w4.heap.size, 4, none⟩ = some (.slice e1 f1 g1) ∧ w'.cell? ⟨w4.heap.size, 5, none⟩ = some (.slice e2 f2 g2) ∧ w'.cell? ⟨w6.heap.size, 0, none⟩ = some (.int .i64 k') ∧ w'.cell? ⟨w6.heap.size, 1, none⟩ = some (.bool b') ∧ w'.cell? ⟨w6.heap.size, 2, none⟩ = some (.int .i64 i') ∧ w'.cell? ⟨w6.heap.size, 3, none⟩ = some (.string s') ∧ w'.cell? ⟨w6.heap.size, 4, none⟩ = some (.slice x1 y1 z1) ∧ w'.cell? ⟨w6.heap.size, 5, none⟩ = some (.slice x2 y2 z2)) (by kernel_rfl) ?_ (fun hHeld => ?_)
  · exact SS.out _ HD.out
  refine wpAnyH_take (i := 0) (v := ?_) rfl (by kernel_rfl) (by kernel_rfl) (by kernel_rfl) (fun _ _ _ h => h) (Or.inl ⟨by rfl, ?_⟩) (by assumption) ?_
  rotate_left 1
  · intro w hSw; (try dsimp only at hSw); go_simp; first | done | with_reducible rfl
  try simp only [Act.put, List.getElem_toArray, List.getElem_cons_zero, List.setIfInBounds_toArray, List.set_cons_zero, List.set_cons_succ]
  refine wpAnyH_take (i := 1) (v := ?_) rfl (by kernel_rfl) (by kernel_rfl) (by kernel_rfl) (fun _ _ _ h => h) (Or.inl ⟨by rfl, ?_⟩) (by assumption) ?_
  rotate_left 1
  · intro w hSw; (try dsimp only at hSw); go_simp; first | done | with_reducible rfl
  try simp only [Act.put, List.getElem_toArray, List.getElem_cons_zero, List.getElem_cons_succ, List.setIfInBounds_toArray, List.set_cons_zero, List.set_cons_succ]
  refine wpAnyH_take (i := 2) (v := ?_) rfl (by kernel_rfl) (by kernel_rfl) (by kernel_rfl) (fun _ _ _ h => h) (Or.inl ⟨by rfl, ?_⟩) (by assumption) ?_
  rotate_left 1
  · intro w hSw; (try dsimp only at hSw); go_simp; first | done | with_reducible rfl
  try simp only [Act.put, List.getElem_toArray, List.getElem_cons_zero, List.getElem_cons_succ, List.setIfInBounds_toArray, List.set_cons_zero, List.set_cons_succ]
  refine wpAnyH_ready (rs := [3]) (by kernel_rfl) (by simp) ?_
  refine AllReadyH.cons rfl (fun K hK => ?_) AllReadyH.nil
  go_simp
  go_at_call 21
  refine (c21.out _ HD.out).mono ?_
  rintro e w21 ⟨rfl, bb⟩
  have T21 : Hid (Below w9.heap.size w9 w21) := nx HD.out bb
  clear bb
  go_wp2_with fail
  refine hK.out _ _ ?_ (fun hHeld => ?_)
  · exact SS.out _ T21.out
  clear hK K
  try simp only [Act.put, List.getElem_toArray, List.getElem_cons_zero, List.getElem_cons_succ, List.setIfInBounds_toArray, List.set_cons_zero, List.set_cons_succ]
  refine wpAnyH_take (i := 4) (v := ?_) rfl (by kernel_rfl) (by kernel_rfl) (by kernel_rfl) (fun _ _ _ h => h) (Or.inl ⟨by rfl, ?_⟩) (by assumption) ?_
  rotate_left 1
  · intro w hSw; (try dsimp only at hSw); go_simp; first | done | with_reducible rfl
  try simp only [Act.put, List.getElem_toArray, List.getElem_cons_zero, List.getElem_cons_succ, List.setIfInBounds_toArray, List.set_cons_zero, List.set_cons_succ]
  refine wpAnyH_take (i := 5) (v := ?_) rfl (by kernel_rfl) (by kernel_rfl) (by kernel_rfl) (fun _ _ _ h => h) (Or.inl ⟨by rfl, ?_⟩) (by assumption) ?_
  rotate_left 1
  · intro w hSw; (try dsimp only at hSw); go_simp; first | done | with_reducible rfl
  try simp only [Act.put, List.getElem_toArray, List.getElem_cons_zero, List.getElem_cons_succ, List.setIfInBounds_toArray, List.set_cons_zero, List.set_cons_succ]
  refine wpAnyH_take (i := 6) (v := ?_) rfl (by kernel_rfl) (by kernel_rfl) (by kernel_rfl) (fun _ _ _ h => h) (Or.inl ⟨by rfl, ?_⟩) (by assumption) ?_
  rotate_left 1
  · intro w hSw; (try dsimp only at hSw); go_simp; first | done | with_reducible rfl
  try simp only [Act.put, List.getElem_toArray, List.getElem_cons_zero, List.getElem_cons_succ, List.setIfInBounds_toArray, List.set_cons_zero, List.set_cons_succ]
  refine wpAnyH_take (i := 7) (v := ?_) rfl (by kernel_rfl) (by kernel_rfl) (by kernel_rfl) (fun _ _ _ h => h) (Or.inl ⟨by rfl, ?_⟩) (by assumption) ?_
  rotate_left 1
  · intro w hSw; (try dsimp only at hSw); go_simp; first | done | with_reducible rfl
  try simp only [Act.put, List.getElem_toArray, List.getElem_cons_zero, List.getElem_cons_succ, List.setIfInBounds_toArray, List.set_cons_zero, List.set_cons_succ]
  refine wpAnyH_take (i := 9) (v := ?_) rfl (by kernel_rfl) (by kernel_rfl) (by kernel_rfl) (fun _ _ _ h => h) (Or.inl ⟨by rfl, ?_⟩) (by assumption) ?_
  rotate_left 1
  · intro w hSw; (try dsimp only at hSw); go_simp; first | done | with_reducible rfl
  try simp only [Act.put, List.getElem_toArray, List.getElem_cons_zero, List.getElem_cons_succ, List.setIfInBounds_toArray, List.set_cons_zero, List.set_cons_succ]
  refine wpAnyH_ready (rs := [8]) (by kernel_rfl) (by simp) ?_
  refine AllReadyH.cons rfl (fun K hK => ?_) AllReadyH.nil
  go_simp
  go_at_call 20
  refine (c20.out _ T21.out).mono ?_
  rintro e w20 ⟨rfl, bb⟩
  have T20 : Hid (Below w9.heap.size w9 w20) := nx T21.out bb
  clear bb
  go_wp2_with fail
  refine hK.out _ _ ?_ (fun hHeld => ?_)
  · exact SS.out _ T20.out
  clear hK K
  try simp only [Act.put, List.getElem_toArray, List.getElem_cons_zero, List.getElem_cons_succ, List.setIfInBounds_toArray, List.set_cons_zero, List.set_cons_succ]
  refine wpAnyH_take (i := 10) (v := ?_) rfl (by kernel_rfl) (by kernel_rfl) (by kernel_rfl) (fun _ _ _ h => h) (Or.inl ⟨by rfl, ?_⟩) (by assumption) ?_
  rotate_left 1
  · intro w hSw; (try dsimp only at hSw); go_simp; first | done | with_reducible rfl
  try simp only [Act.put, List.getElem_toArray, List.getElem_cons_zero, List.getElem_cons_succ, List.setIfInBounds_toArray, List.set_cons_zero, List.set_cons_succ]
  refine wpAnyH_take (i := 11) (v := ?_) rfl (by kernel_rfl) (by kernel_rfl) (by kernel_rfl) (fun _ _ _ h => h) (Or.inl ⟨by rfl, ?_⟩) (by assumption) ?_
  rotate_left 1
  · intro w hSw; (try dsimp only at hSw); go_simp; first | done | with_reducible rfl
  try simp only [Act.put, List.getElem_toArray, List.getElem_cons_zero, List.getElem_cons_succ, List.setIfInBounds_toArray, List.set_cons_zero, List.set_cons_succ]
  refine wpAnyH_take (i := 12) (v := ?_) rfl (by kernel_rfl) (by kernel_rfl) (by kernel_rfl) (fun _ _ _ h => h) (Or.inl ⟨by rfl, ?_⟩) (by assumption) ?_
  rotate_left 1
  · intro w hSw; (try dsimp only at hSw); go_simp; first | done | with_reducible rfl
  try simp only [Act.put, List.getElem_toArray, List.getElem_cons_zero, List.getElem_cons_succ, List.setIfInBounds_toArray, List.set_cons_zero, List.set_cons_succ]
  refine wpAnyH_take (i := 13) (v := ?_) rfl (by kernel_rfl) (by kernel_rfl) (by kernel_rfl) (fun _ _ _ h => h) (Or.inl ⟨by rfl, ?_⟩) (by assumption) ?_
  rotate_left 1
  · intro w hSw; (try dsimp only at hSw); go_simp; first | done | with_reducible rfl
  try simp only [Act.put, List.getElem_toArray, List.getElem_cons_zero, List.getElem_cons_succ, List.setIfInBounds_toArray, List.set_cons_zero, List.set_cons_succ]
  refine wpAnyH_take (i := 14) (v := ?_) rfl (by kernel_rfl) (by kernel_rfl) (by kernel_rfl) (fun _ _ _ h => h) (Or.inl ⟨by rfl, ?_⟩) (by assumption) ?_
  rotate_left 1
  · intro w hSw; (try dsimp only at hSw); go_simp; first | done | with_reducible rfl
  try simp only [Act.put, List.getElem_toArray, List.getElem_cons_zero, List.getElem_cons_succ, List.setIfInBounds_toArray, List.set_cons_zero, List.set_cons_succ]
  refine wpAnyH_ready (rs := [15]) (by kernel_rfl) (by simp) ?_
  refine AllReadyH.cons rfl (fun K hK => ?_) AllReadyH.nil
  go_simp
  go_at_call 22
  refine (c22.out _ T20.out).mono ?_
  rintro e w22 ⟨u, rfl, hu, bb⟩
  have T22 : Hid (Below w9.heap.size w9 w22) := nx T20.out bb
  clear bb
  go_wp2_with fail
  refine hK.out _ _ ?_ (fun hHeld => ?_)
  · exact SS.out _ T22.out
  clear hK K
  try simp only [Act.put, List.getElem_toArray, List.getElem_cons_zero, List.getElem_cons_succ, List.setIfInBounds_toArray, List.set_cons_zero, List.set_cons_succ]
  refine wpAnyH_ready (rs := [16]) (by kernel_rfl) (by simp) ?_
  refine AllReadyH.cons rfl (fun K hK => ?_) AllReadyH.nil
  go_simp
  go_at_call 20
  refine (c20s.out _ _ T22.out hu.out).mono ?_
  rintro e w23 ⟨rfl, bb⟩
  have T23 : Hid (Below w9.heap.size w9 w23) := nx T22.out bb
  clear bb
  go_wp2_with fail
  refine hK.out _ _ ?_ (fun hHeld => ?_)
  · exact SS.out _ T23.out
  clear hK K
  try simp only [Act.put, List.getElem_toArray, List.getElem_cons_zero, List.getElem_cons_succ, List.setIfInBounds_toArray, List.set_cons_zero, List.set_cons_succ]
  refine wpAnyH_take (i := 17) (v := ?_) rfl (by kernel_rfl) (by kernel_rfl) (by kernel_rfl) (fun _ _ _ h => h) (Or.inl ⟨by rfl, ?_⟩) (by assumption) ?_
  rotate_left 1
  · intro w hSw; (try dsimp only at hSw); go_simp; first | done | with_reducible rfl
  try simp only [Act.put, List.getElem_toArray, List.getElem_cons_zero, List.getElem_cons_succ, List.setIfInBounds_toArray, List.set_cons_zero, List.set_cons_succ]
  refine wpAnyH_take (i := 18) (v := ?_) rfl (by kernel_rfl) (by kernel_rfl) (by kernel_rfl) (fun _ _ _ h => h) (Or.inl ⟨by rfl, ?_⟩) (by assumption) ?_
  rotate_left 1
  · intro w hSw; (try dsimp only at hSw); go_simp; first | done | with_reducible rfl
  try simp only [Act.put, List.getElem_toArray, List.getElem_cons_zero, List.getElem_cons_succ, List.setIfInBounds_toArray, List.set_cons_zero, List.set_cons_succ]
  refine wpAnyH_take (i := 19) (v := ?_) rfl (by kernel_rfl) (by kernel_rfl) (by kernel_rfl) (fun _ _ _ h => h) (Or.inl ⟨by rfl, ?_⟩) (by assumption) ?_
  rotate_left 1
  · intro w hSw; (try dsimp only at hSw); go_simp; first | done | with_reducible rfl
  try simp only [Act.put, List.getElem_toArray, List.getElem_cons_zero, List.getElem_cons_succ, List.setIfInBounds_toArray, List.set_cons_zero, List.set_cons_succ]
  refine wpAnyH_take (i := 20) (v := ?_) rfl (by kernel_rfl) (by kernel_rfl) (by kernel_rfl) (fun _ _ _ h => h) (Or.inl ⟨by rfl, ?_⟩) (by assumption) ?_
  rotate_left 1
  · intro w hSw; (try dsimp only at hSw); go_simp; first | done | with_reducible rfl
  try simp only [Act.put, List.getElem_toArray, List.getElem_cons_zero, List.getElem_cons_succ, List.setIfInBounds_toArray, List.set_cons_zero, List.set_cons_succ]
  refine wpAnyH_ready (rs := [21]) (by kernel_rfl) (by simp) ?_
  refine AllReadyH.cons rfl (fun K hK => ?_) AllReadyH.nil
  go_simp
  go_at_call 18
  refine (c18.out _ T23.out).mono ?_
  rintro e w24 ⟨rfl, bb⟩
  have T24 : Hid (Below w9.heap.size w9 w24) := nx T23.out bb
  clear bb
  go_wp2_with fail
  refine hK.out _ _ ?_ (fun hHeld => ?_)
  · exact SS.out _ T24.out
  clear hK K
  try simp only [Act.put, List.getElem_toArray, List.getElem_cons_zero, List.getElem_cons_succ, List.setIfInBounds_toArray, List.set_cons_zero, List.set_cons_succ]
  refine wpAnyH_take (i := 22) (v := ?_) rfl (by kernel_rfl) (by kernel_rfl) (by kernel_rfl) (fun _ _ _ h => h) (Or.inl ⟨by rfl, ?_⟩) (by assumption) ?_
  rotate_left 1
  · intro w hSw; (try dsimp only at hSw); go_simp; first | done | with_reducible rfl
  try simp only [Act.put, List.getElem_toArray, List.getElem_cons_zero, List.getElem_cons_succ, List.setIfInBounds_toArray, List.set_cons_zero, List.set_cons_succ]
  refine wpAnyH_take (i := 23) (v := ?_) rfl (by kernel_rfl) (by kernel_rfl) (by kernel_rfl) (fun _ _ _ h => h) (Or.inl ⟨by rfl, ?_⟩) (by assumption) ?_
  rotate_left 1
  · intro w hSw; (try dsimp only at hSw); go_simp; first | done | with_reducible rfl
  try simp only [Act.put, List.getElem_toArray, List.getElem_cons_zero, List.getElem_cons_succ, List.setIfInBounds_toArray, List.set_cons_zero, List.set_cons_succ]
  refine wpAnyH_take (i := 24) (v := ?_) rfl (by kernel_rfl) (by kernel_rfl) (by kernel_rfl) (fun _ _ _ h => h) (Or.inl ⟨by rfl, ?_⟩) (by assumption) ?_
  rotate_left 1
  · intro w hSw; (try dsimp only at hSw); go_simp; first | done | with_reducible rfl
  try simp only [Act.put, List.getElem_toArray, List.getElem_cons_zero, List.getElem_cons_succ, List.setIfInBounds_toArray, List.set_cons_zero, List.set_cons_succ]
  refine wpAnyH_take (i := 25) (v := ?_) rfl (by kernel_rfl) (by kernel_rfl) (by kernel_rfl) (fun _ _ _ h => h) (Or.inl ⟨by rfl, ?_⟩) (by assumption) ?_
  rotate_left 1
  · intro w hSw; (try dsimp only at hSw); go_simp; first | done | with_reducible rfl
  try simp only [Act.put, List.getElem_toArray, List.getElem_cons_zero, List.getElem_cons_succ, List.setIfInBounds_toArray, List.set_cons_zero, List.set_cons_succ]
  refine wpAnyH_ready (rs := [26]) (by kernel_rfl) (by simp) ?_
  refine AllReadyH.cons rfl (fun K hK => ?_) AllReadyH.nil
  go_simp
  go_at_call 18
  refine (c18'.out _ T24.out).mono ?_
  rintro e w25 ⟨rfl, bb⟩
  have T25 : Hid (Below w9.heap.size w9 w25) := nx T24.out bb
  clear bb
  go_wp2_with fail
  refine hK.out _ _ ?_ (fun hHeld => ?_)
  · exact SS.out _ T25.out
  clear hK K
  try simp only [Act.put, List.getElem_toArray, List.getElem_cons_zero, List.getElem_cons_succ, List.setIfInBounds_toArray, List.set_cons_zero, List.set_cons_succ]
  refine wpAnyH_take (i := 27) (v := ?_) rfl (by kernel_rfl) (by kernel_rfl) (by kernel_rfl) (fun _ _ _ h => h) (Or.inl ⟨by rfl, ?_⟩) (by assumption) ?_
  rotate_left 1
  · intro w hSw; (try dsimp only at hSw); go_simp; first | done | with_reducible rfl
  try simp only [Act.put, List.getElem_toArray, List.getElem_cons_zero, List.getElem_cons_succ, List.setIfInBounds_toArray, List.set_cons_zero, List.set_cons_succ]
  refine wpAnyH_take (i := 28) (v := ?_) rfl (by kernel_rfl) (by kernel_rfl) (by kernel_rfl) (fun _ _ _ h => h) (Or.inl ⟨by rfl, ?_⟩) (by assumption) ?_
  rotate_left 1
  · intro w hSw; (try dsimp only at hSw); go_simp; first | done | with_reducible rfl
  try simp only [Act.put, List.getElem_toArray, List.getElem_cons_zero, List.getElem_cons_succ, List.setIfInBounds_toArray, List.set_cons_zero, List.set_cons_succ]
  refine wpAnyH_ready (rs := [29]) (by kernel_rfl) (by simp) ?_
  refine AllReadyH.cons rfl (fun K hK => ?_) AllReadyH.nil
  go_simp
  go_at_call 19
  refine (c19.out _ T25.out).mono ?_
  rintro e w19 ⟨rfl, bb⟩
  have T19 : Hid (Below w9.heap.size w9 w19) := nx T25.out bb
  clear bb
  go_wp2_with fail
  refine hK.out _ _ ?_ (fun hHeld => ?_)
  · exact SS.out _ T19.out
  clear hK K
  try simp only [Act.put, List.getElem_toArray, List.getElem_cons_zero, List.getElem_cons_succ, List.setIfInBounds_toArray, List.set_cons_zero, List.set_cons_succ]
  refine wpAnyH_take (i := 30) (v := ?_) rfl (by kernel_rfl) (by kernel_rfl) (by kernel_rfl) (fun _ _ _ h => h) (Or.inl ⟨by rfl, ?_⟩) (by assumption) ?_
  rotate_left 1
  · intro w hSw; (try dsimp only at hSw); go_simp; first | done | with_reducible rfl
  try simp only [Act.put, List.getElem_toArray, List.getElem_cons_zero, List.getElem_cons_succ, List.setIfInBounds_toArray, List.set_cons_zero, List.set_cons_succ]
  refine wpAnyH_take (i := 31) (v := ?_) rfl (by kernel_rfl) (by kernel_rfl) (by kernel_rfl) (fun _ _ _ h => h) (Or.inl ⟨by rfl, ?_⟩) (by assumption) ?_
  rotate_left 1
  · intro w hSw; (try dsimp only at hSw); go_simp; first | done | with_reducible rfl
  try simp only [Act.put, List.getElem_toArray, List.getElem_cons_zero, List.getElem_cons_succ, List.setIfInBounds_toArray, List.set_cons_zero, List.set_cons_succ]
  refine wpAnyH_done (by kernel_rfl) ?_ _
  go_wp2_with fail
  go_ret
  exact ⟨rfl, nx BW T19.out⟩
end Go.Proofs.YtmoblfdepcjgfaaDoor.WSames

/- For every two values the law ValueKeys returns true: of two that may be keys, the keys are the same just if the values are; conditions: the tables of the library hold what they are laid with. -/
import Derived.Test.YtmoblfdepcjgfaaDoorAwake
import Derived.Test.YtmoblfdepcjgfaaDoorKeyEq
import Derived.Deep.RegionHeld3
namespace Go.Proofs.YtmoblfdepcjgfaaDoor.WKeys
open Go.RowKit Go.Proofs.YtmoblfdepcjgfaaDoor.Base Go.Proofs.YtmoblfdepcjgfaaDoor.Digits Go.Proofs.YtmoblfdepcjgfaaDoor.Facts Go.Proofs.YtmoblfdepcjgfaaDoor.TextKey Go.Proofs.YtmoblfdepcjgfaaDoor.Shallow Go.Proofs.YtmoblfdepcjgfaaDoor.Awake Go.Proofs.YtmoblfdepcjgfaaDoor.KeyEq Go.Proofs.YtmoblfdepcjgfaaDoor.Eq Go.Proofs.YtmoblfdepcjgfaaDoor.Same
set_option linter.unusedVariables false

theorem keys_same (c d : C) (h1 : ke c = 0) (h2 : ke d = 0) : ((kk c == kk d && ki c == ki d) && (ks c).toList == (ks d).toList) = same c d := by
  obtain ⟨k, b, i, s, n, l⟩ := c
  obtain ⟨k', b', i', s', n', l'⟩ := d
  simp only [ke] at h1 h2
  have g1 : k = 3 ∨ k = 4 := by
    by_cases g : k = 3 ∨ k = 4
    · exact g
    · rw [if_neg g] at h1; omega
  have g2 : k' = 3 ∨ k' = 4 := by
    by_cases g : k' = 3 ∨ k' = 4
    · exact g
    · rw [if_neg g] at h2; omega
  rcases g1 with rfl | rfl <;> rcases g2 with rfl | rfl <;> simp [kk, ki, ks, same, eqB]
theorem text_zero (c : C) (h : ke c = 0) : te c = 0 := by
  obtain ⟨k, b, i, s, n, l⟩ := c
  simp only [ke, te] at h ⊢
  by_cases g : k = 3 ∨ k = 4
  · rw [if_pos (by omega)]
  · rw [if_neg g] at h; omega
theorem text_same (c d : C) (h1 : ke c = 0) (h2 : ke d = 0) (h : same c d = true) : tx c = tx d := by
  obtain ⟨k, b, i, s, n, l⟩ := c
  obtain ⟨k', b', i', s', n', l'⟩ := d
  simp only [ke] at h1 h2
  have g1 : k = 3 ∨ k = 4 := by
    by_cases g : k = 3 ∨ k = 4
    · exact g
    · rw [if_neg g] at h1; omega
  have g2 : k' = 3 ∨ k' = 4 := by
    by_cases g : k' = 3 ∨ k' = 4
    · exact g
    · rw [if_neg g] at h2; omega
  rcases g1 with rfl | rfl <;> rcases g2 with rfl | rfl
  · have e : i = i' := by simpa [same] using h
    simp [tx, e]
  · simp [same] at h
  · simp [same] at h
  · have e : s = s' := by
      have : eqB s s' = true := by simpa [same] using h
      exact eqB_eq.1 this
    simp [tx, e]

theorem errno' (x : Int) (w : World) : Calls Tryd.prog 14 #[.int .i64 x] w fun e w' => e = .returned (.int .i64 x) ∧ w = w' :=
  (errno_c x w).mono fun _ _ h => ⟨h.1, h.2.symm⟩
set_option maxRecDepth 20000 in
set_option maxHeartbeats 3200000 in
theorem walk {m m' : Nat} {v v' : Value} {c d : C} {w : World} (h : In false All w m v c) (h' : In false All w m' v' d) (ht : Tab w) : Calls Tryd.prog 7 #[v, v'] w fun e w' => e = .returned (.bool true) ∧ Below w.heap.size w w' := by
  obtain ⟨v0, v1, v2, v3, v4, v5, rfl, -⟩ := h.six
  obtain ⟨a1, n1, c1, a2, n2, c2, rfl, rfl, rfl, rfl, rfl, rfl⟩ := h.kinds
  obtain ⟨v0, v1, v2, v3, v4, v5, rfl, -⟩ := h'.six
  obtain ⟨p1, q1, r1, p2, q2, r2, rfl, rfl, rfl, rfl, rfl, rfl⟩ := h'.kinds
  obtain ⟨k, hk⟩ : ∃ k, c.k = k := ⟨_, rfl⟩
  obtain ⟨b, hb⟩ : ∃ b, c.b = b := ⟨_, rfl⟩
  obtain ⟨i, hi⟩ : ∃ i, c.i = i := ⟨_, rfl⟩
  obtain ⟨s, hs⟩ : ∃ s, c.s = s := ⟨_, rfl⟩
  obtain ⟨k', hk'⟩ : ∃ k, d.k = k := ⟨_, rfl⟩
  obtain ⟨b', hb'⟩ : ∃ b, d.b = b := ⟨_, rfl⟩
  obtain ⟨i', hi'⟩ : ∃ i, d.i = i := ⟨_, rfl⟩
  obtain ⟨s', hs'⟩ : ∃ s, d.s = s := ⟨_, rfl⟩
  rw [hk, hb, hi, hs] at h
  rw [hk', hb', hi', hs'] at h'
  rw [hk, hb, hi, hs, hk', hb', hi', hs']
  clear hk hb hi hs hk' hb' hi' hs'
  obtain ⟨W0, hW0⟩ : ∃ W0, (w.alloc (.cells #[.int .i64 k, .bool b, .int .i64 i, .string s, .slice a1 n1 c1, .slice a2 n2 c2] 25)).alloc (.cells #[.int .i64 k', .bool b', .int .i64 i', .string s', .slice p1 q1 r1, .slice p2 q2 r2] 25) = W0 := ⟨_, rfl⟩
  have b0 : Below w.heap.size w W0 := by rw [← hW0]; exact ((Below.refl _ w).alloc (Nat.le_refl _) _).alloc (by simp) _
  have hs0 : w.heap.size < W0.heap.size := by rw [← hW0]; simp; omega
  have hs1 : w.heap.size + 1 < W0.heap.size := by rw [← hW0]; simp
  have hx0 : W0.heap[w.heap.size]? = some (.cells #[.int .i64 k, .bool b, .int .i64 i, .string s, .slice a1 n1 c1, .slice a2 n2 c2] 25 (0, 0)) := by
    rw [← hW0, Below.heap_alloc _ _ _ (by simp), heap_alloc_new]
  have hx1 : W0.heap[w.heap.size + 1]? = some (.cells #[.int .i64 k', .bool b', .int .i64 i', .string s', .slice p1 q1 r1, .slice p2 q2 r2] 25 (0, 0)) := by
    have := heap_alloc_new (w.alloc (.cells #[.int .i64 k, .bool b, .int .i64 i, .string s, .slice a1 n1 c1, .slice a2 n2 c2] 25)) (.cells #[.int .i64 k', .bool b', .int .i64 i', .string s', .slice p1 q1 r1, .slice p2 q2 r2] 25)
    rwa [hW0, World.size_alloc] at this
  have HA : Hid (∀ w', Below W0.heap.size W0 w' → In false All w' m (.agg #[.int .i64 k, .bool b, .int .i64 i, .string s, .slice a1 n1 c1, .slice a2 n2 c2]) c) := fun w' hb' => (h.below b0).below hb'
  have HB : Hid (∀ w', Below W0.heap.size W0 w' → In false All w' m' (.agg #[.int .i64 k', .bool b', .int .i64 i', .string s', .slice p1 q1 r1, .slice p2 q2 r2]) d) := fun w' hb' => (h'.below b0).below hb'
  have XA : Hid (∀ w', Below W0.heap.size W0 w' → w'.heap[w.heap.size]? = some (.cells #[.int .i64 k, .bool b, .int .i64 i, .string s, .slice a1 n1 c1, .slice a2 n2 c2] 25 (0, 0))) := fun w' hb' => (hb'.block _ hs0).trans hx0
  have XB : Hid (∀ w', Below W0.heap.size W0 w' → w'.heap[w.heap.size + 1]? = some (.cells #[.int .i64 k', .bool b', .int .i64 i', .string s', .slice p1 q1 r1, .slice p2 q2 r2] 25 (0, 0))) := fun w' hb' => (hb'.block _ hs1).trans hx1
  have ht0 := ht.later b0
  have c19 := awake_c W0 ht0
  clear h h' ht hx0 hx1
  go_enter Tryd.func7, Tryd.ntmps7
  go_wp2_with fail
  refine c19.mono ?_
  rintro e w1 ⟨rfl, B1⟩
  have c9 := shallow_c m _ c w1 (HA.out w1 B1)
  obtain ⟨k0, k1, k2, k3, k4, k5⟩ := six_box (XA.out w1 B1)
  clear c19 hW0
  go_wp2_with fail
  refine c9.mono ?_
  rintro e w2 ⟨rfl, b2⟩
  have B2 : Below W0.heap.size W0 w2 := nx B1 b2
  clear c9 k0 k1 k2 k3 k4 k5
  cases hd : decide (dep c ≤ 4096) with
  | false =>
    go_wp2_with fail
    go_ret
    exact ⟨rfl, nx b0 B2⟩
  | true =>
  have c9 := shallow_c m' _ d w2 (HB.out w2 B2)
  obtain ⟨k0, k1, k2, k3, k4, k5⟩ := six_box (XB.out w2 B2)
  go_wp2_with fail
  refine c9.mono ?_
  rintro e w3 ⟨rfl, b3⟩
  have B3 : Below W0.heap.size W0 w3 := nx B2 b3
  clear c9 k0 k1 k2 k3 k4 k5
  cases hd' : decide (dep d ≤ 4096) with
  | false =>
    go_wp2_with fail
    go_ret
    exact ⟨rfl, nx b0 B3⟩
  | true =>
  have c24 := key_c (HA.out w3 B3)
  have c24' : ∀ w', Below W0.heap.size W0 w' → _ := fun w' hb => key_c (HB.out w' hb)
  have c20 : ∀ w', Below W0.heap.size W0 w' → _ := fun w' hb => same_c (HA.out w' hb) (HB.out w' hb)
  have c23 : ∀ w', Below W0.heap.size W0 w' → _ := fun w' hb => text_c (HA.out w' hb) (ht0.later hb)
  have c23' : ∀ w', Below W0.heap.size W0 w' → _ := fun w' hb => text_c (HB.out w' hb) (ht0.later hb)
  have f1 := keys_same c d
  have f2 := text_same c d
  have f3 := text_zero c
  have f4 := text_zero d
  generalize kk c = K1 at *
  generalize ki c = K2 at *
  generalize ks c = K3 at *
  generalize ke c = K4 at *
  generalize kk d = L1 at *
  generalize ki d = L2 at *
  generalize ks d = L3 at *
  generalize ke d = L4 at *
  generalize tx c = T1 at *
  generalize te c = T2 at *
  generalize tx d = U1 at *
  generalize te d = U2 at *
  generalize same c d = Q at *
  have H24 : Hid (∀ w', Below W0.heap.size W0 w' → _) := c24'
  have H20 : Hid (∀ w', Below W0.heap.size W0 w' → _) := c20
  have H23 : Hid (∀ w', Below W0.heap.size W0 w' → _) := c23
  have H23' : Hid (∀ w', Below W0.heap.size W0 w' → _) := c23'
  clear c24' c20 c23 c23'
  obtain ⟨k0, k1, k2, k3, k4, k5⟩ := six_box (XA.out w3 B3)
  go_wp2_with fail
  refine c24.mono ?_
  rintro e w4 ⟨rfl, b4⟩
  have B4 : Below W0.heap.size W0 w4 := nx B3 b4
  clear c24 k0 k1 k2 k3 k4 k5
  have C5 : Below w4.heap.size w4 (w4.alloc (.cells #[.int .i64 K1, .int .i64 K2, .string K3] 37)) := (Below.refl _ w4).alloc (Nat.le_refl _) _
  obtain ⟨k0, k1, k2, k3, k4, k5⟩ := six_box (XB.out _ (nx B4 C5))
  go_wp2_with fail
  clear k0 k1 k2 k3 k4 k5
  have hx5 := heap_alloc_new w4 (.cells #[.int .i64 K1, .int .i64 K2, .string K3] 37)
  have hs5 : w4.heap.size < (w4.alloc (.cells #[.int .i64 K1, .int .i64 K2, .string K3] 37)).heap.size := by simp
  generalize w4.alloc (.cells #[.int .i64 K1, .int .i64 K2, .string K3] 37) = W5 at *
  have B5 : Below W0.heap.size W0 W5 := nx B4 C5
  refine (H24.out W5 B5).mono ?_
  rintro e w6 ⟨rfl, b6⟩
  have B6 : Below W0.heap.size W0 w6 := nx B5 b6
  obtain ⟨W7, hW7⟩ : ∃ W7, w6.alloc (.cells #[.int .i64 L1, .int .i64 L2, .string L3] 37) = W7 := ⟨_, rfl⟩
  have C7 : Below w6.heap.size w6 W7 := by rw [← hW7]; exact (Below.refl _ w6).alloc (Nat.le_refl _) _
  have hs7 : w6.heap.size < W7.heap.size := by rw [← hW7]; simp
  have hx7 : W7.heap[w6.heap.size]? = some (.cells #[.int .i64 L1, .int .i64 L2, .string L3] 37 (0, 0)) := by rw [← hW7]; exact heap_alloc_new w6 _
  have hx57 := ((nx b6 C7).block w4.heap.size hs5).trans hx5
  have B7 : Below W0.heap.size W0 W7 := nx B6 C7
  have hs57 : w4.heap.size < W7.heap.size := (Array.getElem?_eq_some_iff.1 hx57).1
  have YA : Hid (∀ w', Below W7.heap.size W7 w' → w'.heap[w4.heap.size]? = some (.cells #[.int .i64 K1, .int .i64 K2, .string K3] 37 (0, 0))) := fun w' hb' => (hb'.block _ hs57).trans hx57
  have YB : Hid (∀ w', Below W7.heap.size W7 w' → w'.heap[w6.heap.size]? = some (.cells #[.int .i64 L1, .int .i64 L2, .string L3] 37 (0, 0))) := fun w' hb' => (hb'.block _ hs7).trans hx7
  obtain ⟨k0, k1, k2, k3, k4, k5⟩ := six_box (XA.out _ B7)
  by_cases z1 : K4 = 0
  · by_cases z2 : L4 = 0
    · obtain rfl := f3 z1
      obtain rfl := f4 z2
      have g1 := f1 z1 z2
      have g2 := f2 z1 z2
      subst z1 z2
      go_wp2_with (go_at_call 14; refine (errno' _ _).mono ?_; rintro e w' ⟨rfl, rfl⟩)
      refine (H23.out W7 B7).mono ?_
      rintro e w8 ⟨rfl, b8⟩
      have B8 : Below W0.heap.size W0 w8 := nx B7 b8
      clear k0 k1 k2 k3 k4 k5 hW7
      obtain ⟨k0, k1, k2, k3, k4, k5⟩ := six_box (XB.out _ B8)
      go_wp2_with fail
      refine (H23'.out w8 B8).mono ?_
      rintro e w9 ⟨rfl, b9⟩
      have B79 : Below W7.heap.size W7 w9 := nx b8 b9
      clear k0 k1 k2 k3 k4 k5
      have SS : ∀ w2, Below w9.heap.size w9 w2 → (w2.cell? ⟨w.heap.size, 0, none⟩ = some (.int .i64 k) ∧ w2.cell? ⟨w.heap.size, 1, none⟩ = some (.bool b) ∧ w2.cell? ⟨w.heap.size, 2, none⟩ = some (.int .i64 i) ∧ w2.cell? ⟨w.heap.size, 3, none⟩ = some (.string s) ∧ w2.cell? ⟨w.heap.size, 4, none⟩ = some (.slice a1 n1 c1) ∧ w2.cell? ⟨w.heap.size, 5, none⟩ = some (.slice a2 n2 c2) ∧ w2.cell? ⟨w.heap.size + 1, 0, none⟩ = some (.int .i64 k') ∧ w2.cell? ⟨w.heap.size + 1, 1, none⟩ = some (.bool b') ∧ w2.cell? ⟨w.heap.size + 1, 2, none⟩ = some (.int .i64 i') ∧ w2.cell? ⟨w.heap.size + 1, 3, none⟩ = some (.string s') ∧ w2.cell? ⟨w.heap.size + 1, 4, none⟩ = some (.slice p1 q1 r1) ∧ w2.cell? ⟨w.heap.size + 1, 5, none⟩ = some (.slice p2 q2 r2) ∧ w2.cell? ⟨w4.heap.size, 0, none⟩ = some (.int .i64 K1) ∧ w2.cell? ⟨w4.heap.size, 1, none⟩ = some (.int .i64 K2) ∧ w2.cell? ⟨w4.heap.size, 2, none⟩ = some (.string K3) ∧ w2.cell? ⟨w6.heap.size, 0, none⟩ = some (.int .i64 L1) ∧ w2.cell? ⟨w6.heap.size, 1, none⟩ = some (.int .i64 L2) ∧ w2.cell? ⟨w6.heap.size, 2, none⟩ = some (.string L3) ∧ Hid (Below w9.heap.size w9 w2)) := by
        intro w2 hb
        obtain ⟨k0, k1, k2, k3, k4, k5⟩ := six_box (XA.out w2 (nx (nx B7 B79) hb))
        obtain ⟨l0, l1, l2, l3, l4, l5⟩ := six_box (XB.out w2 (nx (nx B7 B79) hb))
        have y := YA.out w2 (nx B79 hb)
        have y' := YB.out w2 (nx B79 hb)
        exact ⟨k0, k1, k2, k3, k4, k5, l0, l1, l2, l3, l4, l5, by simp [World.cell?, y], by simp [World.cell?, y], by simp [World.cell?, y], by simp [World.cell?, y'], by simp [World.cell?, y'], by simp [World.cell?, y'], hb⟩
      have c20 : ∀ w', Hid (Below w9.heap.size w9 w') → Calls Tryd.prog 20 #[.agg #[.int .i64 k, .bool b, .int .i64 i, .string s, .slice a1 n1 c1, .slice a2 n2 c2], .agg #[.int .i64 k', .bool b', .int .i64 i', .string s', .slice p1 q1 r1, .slice p2 q2 r2]] w' fun e w2 => e = .returned (.bool Q) ∧ (w2.cell? ⟨w.heap.size, 0, none⟩ = some (.int .i64 k) ∧ w2.cell? ⟨w.heap.size, 1, none⟩ = some (.bool b) ∧ w2.cell? ⟨w.heap.size, 2, none⟩ = some (.int .i64 i) ∧ w2.cell? ⟨w.heap.size, 3, none⟩ = some (.string s) ∧ w2.cell? ⟨w.heap.size, 4, none⟩ = some (.slice a1 n1 c1) ∧ w2.cell? ⟨w.heap.size, 5, none⟩ = some (.slice a2 n2 c2) ∧ w2.cell? ⟨w.heap.size + 1, 0, none⟩ = some (.int .i64 k') ∧ w2.cell? ⟨w.heap.size + 1, 1, none⟩ = some (.bool b') ∧ w2.cell? ⟨w.heap.size + 1, 2, none⟩ = some (.int .i64 i') ∧ w2.cell? ⟨w.heap.size + 1, 3, none⟩ = some (.string s') ∧ w2.cell? ⟨w.heap.size + 1, 4, none⟩ = some (.slice p1 q1 r1) ∧ w2.cell? ⟨w.heap.size + 1, 5, none⟩ = some (.slice p2 q2 r2) ∧ w2.cell? ⟨w4.heap.size, 0, none⟩ = some (.int .i64 K1) ∧ w2.cell? ⟨w4.heap.size, 1, none⟩ = some (.int .i64 K2) ∧ w2.cell? ⟨w4.heap.size, 2, none⟩ = some (.string K3) ∧ w2.cell? ⟨w6.heap.size, 0, none⟩ = some (.int .i64 L1) ∧ w2.cell? ⟨w6.heap.size, 1, none⟩ = some (.int .i64 L2) ∧ w2.cell? ⟨w6.heap.size, 2, none⟩ = some (.string L3) ∧ Hid (Below w9.heap.size w9 w2)) := by
        intro w' hb
        refine (H20.out w' (nx (nx B7 B79) hb.out)).mono ?_
        rintro e w2 ⟨rfl, b2⟩
        exact ⟨rfl, SS w2 (nx hb.out b2)⟩
      obtain ⟨s0, s1, s2, s3, s4, s5, s6, s7, s8, s9, s10, s11, s12, s13, s14, s15, s16, s17, HB0⟩ := SS w9 (Below.refl _ _)
      have HB1 : Hid (Below w9.heap.size w9 w9.drew) := (Below.refl w9.heap.size w9).drew
      have BW : Below w.heap.size w w9 := nx b0 (nx B7 B79)
      clear SS HA HB XA XB YA YB H24 H20 H23 H23' B7 B79 B8 b8 b9 B6 b6 B5 B4 b4 B3 b3 B2 b2 B1 C5 C7 hx5 hx7 hx57
      cases Q with
      | true =>
        obtain rfl := g2 rfl
        have hq : ∀ w, (binOp .eql 37 (.agg #[.int .i64 K1, .int .i64 K2, .string K3]) (.agg #[.int .i64 L1, .int .i64 L2, .string L3])).run Tryd.prog w = .ok (.bool true) w := fun w => by rw [eqKey, g1]
        have hn : ∀ w, (binOp .neq 37 (.agg #[.int .i64 K1, .int .i64 K2, .string K3]) (.agg #[.int .i64 L1, .int .i64 L2, .string L3])).run Tryd.prog w = .ok (.bool false) w := fun w => by rw [neKey, g1]; rfl
        clear g1 g2 f1 f2 f3 f4
        go_wp2_with fail
        go_region_held3 (fun w' => w'.cell? ⟨w.heap.size, 0, none⟩ = some (.int .i64 k) ∧ w'.cell? ⟨w.heap.size, 1, none⟩ = some (.bool b) ∧ w'.cell? ⟨w.heap.size, 2, none⟩ = some (.int .i64 i) ∧ w'.cell? ⟨w.heap.size, 3, none⟩ = some (.string s) ∧ w'.cell? ⟨w.heap.size, 4, none⟩ = some (.slice a1 n1 c1) ∧ w'.cell? ⟨w.heap.size, 5, none⟩ = some (.slice a2 n2 c2) ∧ w'.cell? ⟨w.heap.size + 1, 0, none⟩ = some (.int .i64 k') ∧ w'.cell? ⟨w.heap.size + 1, 1, none⟩ = some (.bool b') ∧ w'.cell? ⟨w.heap.size + 1, 2, none⟩ = some (.int .i64 i') ∧ w'.cell? ⟨w.heap.size + 1, 3, none⟩ = some (.string s') ∧ w'.cell? ⟨w.heap.size + 1, 4, none⟩ = some (.slice p1 q1 r1) ∧ w'.cell? ⟨w.heap.size + 1, 5, none⟩ = some (.slice p2 q2 r2) ∧ w'.cell? ⟨w4.heap.size, 0, none⟩ = some (.int .i64 K1) ∧ w'.cell? ⟨w4.heap.size, 1, none⟩ = some (.int .i64 K2) ∧ w'.cell? ⟨w4.heap.size, 2, none⟩ = some (.string K3) ∧ w'.cell? ⟨w6.heap.size, 0, none⟩ = some (.int .i64 L1) ∧ w'.cell? ⟨w6.heap.size, 1, none⟩ = some (.int .i64 L2) ∧ w'.cell? ⟨w6.heap.size, 2, none⟩ = some (.string L3) ∧ Hid (Below w9.heap.size w9 w')) (go_keep) (first
          | (go_at_call 20; refine (c20 _ (by assumption)).mono ?_; rintro e w23 ⟨rfl, n0, n1, n2, n3, n4, n5, n6, n7, n8, n9, n10, n11, n12, n13, n14, n15, n16, n17, HB4⟩)
          | (go_at_call 14; refine (errno_c _ _).mono ?_; rintro e w20 ⟨rfl, rfl⟩)
          | fail)
        all_goals go_wp2_with fail
        all_goals go_ret
        all_goals exact ⟨rfl, nx BW HB4.out⟩
      | false =>
        have hq : ∀ w, (binOp .eql 37 (.agg #[.int .i64 K1, .int .i64 K2, .string K3]) (.agg #[.int .i64 L1, .int .i64 L2, .string L3])).run Tryd.prog w = .ok (.bool false) w := fun w => by rw [eqKey, g1]
        have hn : ∀ w, (binOp .neq 37 (.agg #[.int .i64 K1, .int .i64 K2, .string K3]) (.agg #[.int .i64 L1, .int .i64 L2, .string L3])).run Tryd.prog w = .ok (.bool true) w := fun w => by rw [neKey, g1]; rfl
        clear g1 g2 f1 f2 f3 f4
        go_wp2_with fail
        refine wp_region_held_drew (S := fun w' => w'.cell? ⟨w.heap.size, 0, none⟩ = some (.int .i64 k) ∧ w'.cell? ⟨w.heap.size, 1, none⟩ = some (.bool b) ∧ w'.cell? ⟨w.heap.size, 2, none⟩ = some (.int .i64 i) ∧ w'.cell? ⟨w.heap.size, 3, none⟩ = some (.string s) ∧ w'.cell? ⟨w.heap.size, 4, none⟩ = some (.slice a1 n1 c1) ∧ w'.cell? ⟨w.heap.size, 5, none⟩ = some (.slice a2 n2 c2) ∧ w'.cell? ⟨w.heap.size + 1, 0, none⟩ = some (.int .i64 k') ∧ w'.cell? ⟨w.heap.size + 1, 1, none⟩ = some (.bool b') ∧ w'.cell? ⟨w.heap.size + 1, 2, none⟩ = some (.int .i64 i') ∧ w'.cell? ⟨w.heap.size + 1, 3, none⟩ = some (.string s') ∧ w'.cell? ⟨w.heap.size + 1, 4, none⟩ = some (.slice p1 q1 r1) ∧ w'.cell? ⟨w.heap.size + 1, 5, none⟩ = some (.slice p2 q2 r2) ∧ w'.cell? ⟨w4.heap.size, 0, none⟩ = some (.int .i64 K1) ∧ w'.cell? ⟨w4.heap.size, 1, none⟩ = some (.int .i64 K2) ∧ w'.cell? ⟨w4.heap.size, 2, none⟩ = some (.string K3) ∧ w'.cell? ⟨w6.heap.size, 0, none⟩ = some (.int .i64 L1) ∧ w'.cell? ⟨w6.heap.size, 1, none⟩ = some (.int .i64 L2) ∧ w'.cell? ⟨w6.heap.size, 2, none⟩ = some (.string L3) ∧ Hid (Below w9.heap.size w9 w')) (by kernel_rfl) ?_ (fun hHeld => ?_)
        · exact ⟨s0, s1, s2, s3, s4, s5, s6, s7, s8, s9, s10, s11, s12, s13, s14, s15, s16, s17, HB1⟩
        refine wpAnyH_take (i := 0) (v := ?_) rfl (by kernel_rfl) (by kernel_rfl) (by kernel_rfl) (fun _ _ _ h => h) (Or.inl ⟨by rfl, ?_⟩) (by assumption) ?_
        rotate_left 1
        · intro w hSw; (try dsimp only at hSw); go_simp; first | done | with_reducible rfl
        try simp only [Act.put, List.getElem_toArray, List.getElem_cons_zero, List.setIfInBounds_toArray, List.set_cons_zero, List.set_cons_succ]
        refine wpAnyH_ready (rs := [1]) (by kernel_rfl) (by simp) ?_
        refine AllReadyH.cons rfl (fun K hK => ?_) AllReadyH.nil
        go_simp
        go_at_call 14; refine (errno' _ _).mono ?_; rintro e w20 ⟨rfl, rfl⟩
        go_wp2_with fail
        refine hK.out _ _ ?_ (fun hHeld => ?_)
        · first | assumption | exact ⟨n0, n1, n2, n3, n4, n5, n6, n7, n8, n9, n10, n11, n12, n13, n14, n15, n16, n17, HB4⟩
        clear hK K
        try simp only [Act.put, List.getElem_toArray, List.getElem_cons_zero, List.getElem_cons_succ, List.setIfInBounds_toArray, List.set_cons_zero, List.set_cons_succ]
        refine wpAnyH_take (i := 2) (v := ?_) rfl (by kernel_rfl) (by kernel_rfl) (by kernel_rfl) (fun _ _ _ h => h) (Or.inl ⟨by rfl, ?_⟩) (by assumption) ?_
        rotate_left 1
        · intro w hSw; (try dsimp only at hSw); go_simp; first | done | with_reducible rfl
        try simp only [Act.put, List.getElem_toArray, List.getElem_cons_zero, List.getElem_cons_succ, List.setIfInBounds_toArray, List.set_cons_zero, List.set_cons_succ]
        refine wpAnyH_take (i := 3) (v := ?_) rfl (by kernel_rfl) (by kernel_rfl) (by kernel_rfl) (fun _ _ _ h => h) (Or.inl ⟨by rfl, ?_⟩) (by assumption) ?_
        rotate_left 1
        · intro w hSw; (try dsimp only at hSw); go_simp; first | done | with_reducible rfl
        try simp only [Act.put, List.getElem_toArray, List.getElem_cons_zero, List.getElem_cons_succ, List.setIfInBounds_toArray, List.set_cons_zero, List.set_cons_succ]
        refine wpAnyH_take (i := 4) (v := ?_) rfl (by kernel_rfl) (by kernel_rfl) (by kernel_rfl) (fun _ _ _ h => h) (Or.inl ⟨by rfl, ?_⟩) (by assumption) ?_
        rotate_left 1
        · intro w hSw; (try dsimp only at hSw); go_simp; first | done | with_reducible rfl
        try simp only [Act.put, List.getElem_toArray, List.getElem_cons_zero, List.getElem_cons_succ, List.setIfInBounds_toArray, List.set_cons_zero, List.set_cons_succ]
        refine wpAnyH_ready (rs := [5]) (by kernel_rfl) (by simp) ?_
        refine AllReadyH.cons rfl (fun K hK => ?_) AllReadyH.nil
        go_simp
        go_at_call 14; refine (errno' _ _).mono ?_; rintro e w20 ⟨rfl, rfl⟩
        go_wp2_with fail
        refine hK.out _ _ ?_ (fun hHeld => ?_)
        · first | assumption | exact ⟨n0, n1, n2, n3, n4, n5, n6, n7, n8, n9, n10, n11, n12, n13, n14, n15, n16, n17, HB4⟩
        clear hK K
        try simp only [Act.put, List.getElem_toArray, List.getElem_cons_zero, List.getElem_cons_succ, List.setIfInBounds_toArray, List.set_cons_zero, List.set_cons_succ]
        refine wpAnyH_take (i := 6) (v := ?_) rfl (by kernel_rfl) (by kernel_rfl) (by kernel_rfl) (fun _ _ _ h => h) (Or.inl ⟨by rfl, ?_⟩) (by assumption) ?_
        rotate_left 1
        · intro w hSw; (try dsimp only at hSw); go_simp; first | done | with_reducible rfl
        try simp only [Act.put, List.getElem_toArray, List.getElem_cons_zero, List.getElem_cons_succ, List.setIfInBounds_toArray, List.set_cons_zero, List.set_cons_succ]
        refine wpAnyH_take (i := 7) (v := ?_) rfl (by kernel_rfl) (by kernel_rfl) (by kernel_rfl) (fun _ _ _ h => h) (Or.inl ⟨by rfl, ?_⟩) (by assumption) ?_
        rotate_left 1
        · intro w hSw; (try dsimp only at hSw); go_simp; first | done | with_reducible rfl
        try simp only [Act.put, List.getElem_toArray, List.getElem_cons_zero, List.getElem_cons_succ, List.setIfInBounds_toArray, List.set_cons_zero, List.set_cons_succ]
        refine wpAnyH_take (i := 8) (v := ?_) rfl (by kernel_rfl) (by kernel_rfl) (by kernel_rfl) (fun _ _ _ h => h) (Or.inl ⟨by rfl, ?_⟩) (by assumption) ?_
        rotate_left 1
        · intro w hSw; (try dsimp only at hSw); go_simp; first | done | with_reducible rfl
        try simp only [Act.put, List.getElem_toArray, List.getElem_cons_zero, List.getElem_cons_succ, List.setIfInBounds_toArray, List.set_cons_zero, List.set_cons_succ]
        refine wpAnyH_take (i := 9) (v := ?_) rfl (by kernel_rfl) (by kernel_rfl) (by kernel_rfl) (fun _ _ _ h => h) (Or.inl ⟨by rfl, ?_⟩) (by assumption) ?_
        rotate_left 1
        · intro w hSw; (try dsimp only at hSw); go_simp; first | done | with_reducible rfl
        try simp only [Act.put, List.getElem_toArray, List.getElem_cons_zero, List.getElem_cons_succ, List.setIfInBounds_toArray, List.set_cons_zero, List.set_cons_succ]
        refine wpAnyH_take (i := 10) (v := ?_) rfl (by kernel_rfl) (by kernel_rfl) (by kernel_rfl) (fun _ _ _ h => h) (Or.inl ⟨by rfl, ?_⟩) (by assumption) ?_
        rotate_left 1
        · intro w hSw; (try dsimp only at hSw); go_simp; first | done | with_reducible rfl
        try simp only [Act.put, List.getElem_toArray, List.getElem_cons_zero, List.getElem_cons_succ, List.setIfInBounds_toArray, List.set_cons_zero, List.set_cons_succ]
        refine wpAnyH_take (i := 11) (v := ?_) rfl (by kernel_rfl) (by kernel_rfl) (by kernel_rfl) (fun _ _ _ h => h) (Or.inl ⟨by rfl, ?_⟩) (by assumption) ?_
        rotate_left 1
        · intro w hSw; (try dsimp only at hSw); go_simp; first | done | with_reducible rfl
        try simp only [Act.put, List.getElem_toArray, List.getElem_cons_zero, List.getElem_cons_succ, List.setIfInBounds_toArray, List.set_cons_zero, List.set_cons_succ]
        refine wpAnyH_take (i := 12) (v := ?_) rfl (by kernel_rfl) (by kernel_rfl) (by kernel_rfl) (fun _ _ _ h => h) (Or.inl ⟨by rfl, ?_⟩) (by assumption) ?_
        rotate_left 1
        · intro w hSw; (try dsimp only at hSw); go_simp; first | done | with_reducible rfl
        try simp only [Act.put, List.getElem_toArray, List.getElem_cons_zero, List.getElem_cons_succ, List.setIfInBounds_toArray, List.set_cons_zero, List.set_cons_succ]
        refine wpAnyH_take (i := 13) (v := ?_) rfl (by kernel_rfl) (by kernel_rfl) (by kernel_rfl) (fun _ _ _ h => h) (Or.inl ⟨by rfl, ?_⟩) (by assumption) ?_
        rotate_left 1
        · intro w hSw; (try dsimp only at hSw); go_simp; first | done | with_reducible rfl
        try simp only [Act.put, List.getElem_toArray, List.getElem_cons_zero, List.getElem_cons_succ, List.setIfInBounds_toArray, List.set_cons_zero, List.set_cons_succ]
        refine wpAnyH_ready (rs := [14]) (by kernel_rfl) (by simp) ?_
        refine AllReadyH.cons rfl (fun K hK => ?_) AllReadyH.nil
        go_simp
        go_at_call 20; refine (c20 _ (by assumption)).mono ?_; rintro e w23 ⟨rfl, n0, n1, n2, n3, n4, n5, n6, n7, n8, n9, n10, n11, n12, n13, n14, n15, n16, n17, HB4⟩
        go_wp2_with fail
        refine hK.out _ _ ?_ (fun hHeld => ?_)
        · first | assumption | exact ⟨n0, n1, n2, n3, n4, n5, n6, n7, n8, n9, n10, n11, n12, n13, n14, n15, n16, n17, HB4⟩
        clear hK K
        try simp only [Act.put, List.getElem_toArray, List.getElem_cons_zero, List.getElem_cons_succ, List.setIfInBounds_toArray, List.set_cons_zero, List.set_cons_succ]
        refine wpAnyH_take (i := 15) (v := ?_) rfl (by kernel_rfl) (by kernel_rfl) (by kernel_rfl) (fun _ _ _ h => h) (Or.inl ⟨by rfl, ?_⟩) (by assumption) ?_
        rotate_left 1
        · intro w hSw; (try dsimp only at hSw); go_simp; first | done | with_reducible rfl
        try simp only [Act.put, List.getElem_toArray, List.getElem_cons_zero, List.getElem_cons_succ, List.setIfInBounds_toArray, List.set_cons_zero, List.set_cons_succ]
        refine wpAnyH_take (i := 16) (v := ?_) rfl (by kernel_rfl) (by kernel_rfl) (by kernel_rfl) (fun _ _ _ h => h) (Or.inl ⟨by rfl, ?_⟩) (by assumption) ?_
        rotate_left 1
        · intro w hSw; (try dsimp only at hSw); go_simp; first | done | with_reducible rfl
        try simp only [Act.put, List.getElem_toArray, List.getElem_cons_zero, List.getElem_cons_succ, List.setIfInBounds_toArray, List.set_cons_zero, List.set_cons_succ]
        refine wpAnyH_take (i := 17) (v := ?_) rfl (by kernel_rfl) (by kernel_rfl) (by kernel_rfl) (fun _ _ _ h => h) (Or.inl ⟨by rfl, ?_⟩) (by assumption) ?_
        rotate_left 1
        · intro w hSw; (try dsimp only at hSw); go_simp; first | done | with_reducible rfl
        try simp only [Act.put, List.getElem_toArray, List.getElem_cons_zero, List.getElem_cons_succ, List.setIfInBounds_toArray, List.set_cons_zero, List.set_cons_succ]
        refine wpAnyH_take (i := 18) (v := ?_) rfl (by kernel_rfl) (by kernel_rfl) (by kernel_rfl) (fun _ _ _ h => h) (Or.inl ⟨by rfl, ?_⟩) (by assumption) ?_
        rotate_left 1
        · intro w hSw; (try dsimp only at hSw); go_simp; first | done | with_reducible rfl
        try simp only [Act.put, List.getElem_toArray, List.getElem_cons_zero, List.getElem_cons_succ, List.setIfInBounds_toArray, List.set_cons_zero, List.set_cons_succ]
        refine wpAnyH_take (i := 19) (v := ?_) rfl (by kernel_rfl) (by kernel_rfl) (by kernel_rfl) (fun _ _ _ h => h) (Or.inl ⟨by rfl, ?_⟩) (by assumption) ?_
        rotate_left 1
        · intro w hSw; (try dsimp only at hSw); go_simp; first | done | with_reducible rfl
        try simp only [Act.put, List.getElem_toArray, List.getElem_cons_zero, List.getElem_cons_succ, List.setIfInBounds_toArray, List.set_cons_zero, List.set_cons_succ]
        refine wpAnyH_take (i := 20) (v := ?_) rfl (by kernel_rfl) (by kernel_rfl) (by kernel_rfl) (fun _ _ _ h => h) (Or.inl ⟨by rfl, ?_⟩) (by assumption) ?_
        rotate_left 1
        · intro w hSw; (try dsimp only at hSw); go_simp; first | done | with_reducible rfl
        try simp only [Act.put, List.getElem_toArray, List.getElem_cons_zero, List.getElem_cons_succ, List.setIfInBounds_toArray, List.set_cons_zero, List.set_cons_succ]
        refine wpAnyH_take (i := 21) (v := ?_) rfl (by kernel_rfl) (by kernel_rfl) (by kernel_rfl) (fun _ _ _ h => h) (Or.inl ⟨by rfl, ?_⟩) (by assumption) ?_
        rotate_left 1
        · intro w hSw; (try dsimp only at hSw); go_simp; first | done | with_reducible rfl
        try simp only [Act.put, List.getElem_toArray, List.getElem_cons_zero, List.getElem_cons_succ, List.setIfInBounds_toArray, List.set_cons_zero, List.set_cons_succ]
        refine wpAnyH_take (i := 22) rfl (by kernel_rfl) (by kernel_rfl) (by kernel_rfl) (fun _ _ _ h => h) (Or.inr ⟨by rfl, rfl⟩) (by assumption) ?_
        try simp only [Act.put, List.getElem_toArray, List.getElem_cons_zero, List.getElem_cons_succ, List.setIfInBounds_toArray, List.set_cons_zero, List.set_cons_succ]
        refine wpAnyH_take (i := 23) rfl (by kernel_rfl) (by kernel_rfl) (by kernel_rfl) (fun _ _ _ h => h) (Or.inr ⟨by rfl, rfl⟩) (by assumption) ?_
        try simp only [Act.put, List.getElem_toArray, List.getElem_cons_zero, List.getElem_cons_succ, List.setIfInBounds_toArray, List.set_cons_zero, List.set_cons_succ]
        refine wpAnyH_take (i := 24) rfl (by kernel_rfl) (by kernel_rfl) (by kernel_rfl) (fun _ _ _ h => h) (Or.inr ⟨by rfl, rfl⟩) (by assumption) ?_
        try simp only [Act.put, List.getElem_toArray, List.getElem_cons_zero, List.getElem_cons_succ, List.setIfInBounds_toArray, List.set_cons_zero, List.set_cons_succ]
        refine wpAnyH_take (i := 25) (v := ?_) rfl (by kernel_rfl) (by kernel_rfl) (by kernel_rfl) (fun _ _ _ h => h) (Or.inl ⟨by rfl, ?_⟩) (by assumption) ?_
        rotate_left 1
        · intro w hSw; (try dsimp only at hSw); go_simp; first | done | with_reducible rfl
        try simp only [Act.put, List.getElem_toArray, List.getElem_cons_zero, List.getElem_cons_succ, List.setIfInBounds_toArray, List.set_cons_zero, List.set_cons_succ]
        refine wpAnyH_take (i := 26) (v := ?_) rfl (by kernel_rfl) (by kernel_rfl) (by kernel_rfl) (fun _ _ _ h => h) (Or.inl ⟨by rfl, ?_⟩) (by assumption) ?_
        rotate_left 1
        · intro w hSw; (try dsimp only at hSw); go_simp; first | done | with_reducible rfl
        try simp only [Act.put, List.getElem_toArray, List.getElem_cons_zero, List.getElem_cons_succ, List.setIfInBounds_toArray, List.set_cons_zero, List.set_cons_succ]
        refine wpAnyH_take (i := 27) (v := ?_) rfl (by kernel_rfl) (by kernel_rfl) (by kernel_rfl) (fun _ _ _ h => h) (Or.inl ⟨by rfl, ?_⟩) (by assumption) ?_
        rotate_left 1
        · intro w hSw; (try dsimp only at hSw); go_simp; first | done | with_reducible rfl
        try simp only [Act.put, List.getElem_toArray, List.getElem_cons_zero, List.getElem_cons_succ, List.setIfInBounds_toArray, List.set_cons_zero, List.set_cons_succ]
        refine wpAnyH_done (by kernel_rfl) ?_ _
        go_wp2_with fail
        go_ret
        exact ⟨rfl, nx BW HB4.out⟩
    · subst z1
      have e2 : (L4 != 0) = true := by simp [z2]
      clear z2 f1 f2 f3 f4
      go_wp2_with (go_at_call 14; refine (errno_c _ _).mono ?_; rintro e w' ⟨rfl, rfl⟩)
      go_ret
      exact ⟨rfl, nx b0 B7⟩
  · have e1 : (K4 != 0) = true := by simp [z1]
    clear z1 f1 f2 f3 f4
    go_wp2_with (go_at_call 14; refine (errno_c _ _).mono ?_; rintro e w' ⟨rfl, rfl⟩)
    go_ret
    exact ⟨rfl, nx b0 B7⟩
end Go.Proofs.YtmoblfdepcjgfaaDoor.WKeys

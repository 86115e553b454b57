/- For every value the law ValueTexts returns true: Text and KeyOf answer as the document says, and the value stays; conditions: the tables of the library hold what they are laid with. -/
import Derived.Test.YtmoblfdepcjgfaaDoorAwake
import Derived.Test.YtmoblfdepcjgfaaDoorLendV
import Derived.Test.YtmoblfdepcjgfaaDoorKeptV
import Derived.Test.YtmoblfdepcjgfaaDoorKeyEq
namespace Go.Proofs.YtmoblfdepcjgfaaDoor.WTexts
open Go.RowKit Go.Proofs.YtmoblfdepcjgfaaDoor.Base Go.Proofs.YtmoblfdepcjgfaaDoor.Digits Go.Proofs.YtmoblfdepcjgfaaDoor.Facts Go.Proofs.YtmoblfdepcjgfaaDoor.TextKey Go.Proofs.YtmoblfdepcjgfaaDoor.Shallow Go.Proofs.YtmoblfdepcjgfaaDoor.LendV Go.Proofs.YtmoblfdepcjgfaaDoor.KeptV Go.Proofs.YtmoblfdepcjgfaaDoor.Awake Go.Proofs.YtmoblfdepcjgfaaDoor.KeyEq
set_option linter.unusedVariables false

set_option maxRecDepth 20000 in
set_option maxHeartbeats 3200000 in
theorem walk {m : Nat} {v : Value} {c : C} {w : World} (h : In false All w m v c) (ht : Tab w) : Calls Tryd.prog 5 #[v] w fun e w' => e = .returned (.bool true) ∧ Below w.heap.size w w' := by
  obtain ⟨v0, v1, v2, v3, v4, v5, rfl, -⟩ := h.six
  obtain ⟨a1, n1, c1, a2, n2, c2, rfl, rfl, rfl, rfl, rfl, rfl⟩ := h.kinds
  obtain ⟨k, hk⟩ : ∃ k, c.k = k := ⟨_, rfl⟩
  obtain ⟨b, hb⟩ : ∃ b, c.b = b := ⟨_, rfl⟩
  obtain ⟨i, hi⟩ : ∃ i, c.i = i := ⟨_, rfl⟩
  obtain ⟨s, hs⟩ : ∃ s, c.s = s := ⟨_, rfl⟩
  rw [hk, hb, hi, hs] at h
  rw [hk, hb, hi, hs]
  obtain ⟨W0, hW0⟩ : ∃ W0, w.alloc (.cells #[.int .i64 k, .bool b, .int .i64 i, .string s, .slice a1 n1 c1, .slice a2 n2 c2] 25) = W0 := ⟨_, rfl⟩
  have b0 : Below w.heap.size w W0 := by rw [← hW0]; exact (Below.refl _ w).alloc (Nat.le_refl _) _
  have hs0 : w.heap.size < W0.heap.size := by rw [← hW0]; simp
  have hx0 : W0.heap[w.heap.size]? = some (.cells #[.int .i64 k, .bool b, .int .i64 i, .string s, .slice a1 n1 c1, .slice a2 n2 c2] 25 (0, 0)) := by rw [← hW0, heap_alloc_new]
  have HV : Hid (∀ w', Below W0.heap.size W0 w' → In false All w' m (.agg #[.int .i64 k, .bool b, .int .i64 i, .string s, .slice a1 n1 c1, .slice a2 n2 c2]) c) := fun w' hb' => (h.below b0).below hb'
  have HB : Hid (∀ w', Below W0.heap.size W0 w' → w'.heap[w.heap.size]? = some (.cells #[.int .i64 k, .bool b, .int .i64 i, .string s, .slice a1 n1 c1, .slice a2 n2 c2] 25 (0, 0))) := fun w' hb' => (hb'.block _ hs0).trans hx0
  have ht0 := ht.later b0
  have c9 := shallow_c m _ c W0 (h.below b0)
  obtain ⟨k0, k1, k2, k3, k4, k5⟩ := six_box hx0
  clear h ht hx0
  go_enter Tryd.func5, Tryd.ntmps5
  go_wp2_with fail
  refine c9.mono ?_
  rintro e w1 ⟨rfl, b1⟩
  clear c9 k0 k1 k2 k3 k4 k5 hW0
  cases hd : decide (dep c ≤ 4096) with
  | false =>
    go_wp2_with fail
    go_ret
    exact ⟨rfl, nx b0 b1⟩
  | true =>
    obtain ⟨k0, k1, k2, k3, k4, k5⟩ := six_box (HB.out w1 b1)
    have c10 := lendV_c m _ c w1 (HV.out w1 b1)
    go_wp2_with fail
    refine c10.mono ?_
    rintro e w2 ⟨u, rfl, hx, b2⟩
    obtain ⟨y0, y1, y2, y3, y4, y5, rfl, -⟩ := hx.six
    obtain ⟨p1, q1, r1, p2, q2, r2, rfl, rfl, rfl, rfl, rfl, rfl⟩ := hx.kinds
    rw [hk, hb, hi, hs] at hx
    rw [hk, hb, hi, hs]
    clear c10 k0 k1 k2 k3 k4 k5
    have B2 := nx b1 b2
    obtain ⟨W3, hW3⟩ : ∃ W3, w2.alloc (.cells #[.int .i64 k, .bool b, .int .i64 i, .string s, .slice p1 q1 r1, .slice p2 q2 r2] 25) = W3 := ⟨_, rfl⟩
    have b3 : Below w2.heap.size w2 W3 := by rw [← hW3]; exact (Below.refl _ w2).alloc (Nat.le_refl _) _
    have hs3 : w2.heap.size < W3.heap.size := by rw [← hW3]; simp
    have hx3 : W3.heap[w2.heap.size]? = some (.cells #[.int .i64 k, .bool b, .int .i64 i, .string s, .slice p1 q1 r1, .slice p2 q2 r2] 25 (0, 0)) := by rw [← hW3, heap_alloc_new]
    have HX : Hid (∀ w', Below W3.heap.size W3 w' → In true (Rg w1.heap.size w2.heap.size) w' m (.agg #[.int .i64 k, .bool b, .int .i64 i, .string s, .slice p1 q1 r1, .slice p2 q2 r2]) c) := fun w' hb' => (hx.below b3).below hb'
    have HY : Hid (∀ w', Below W3.heap.size W3 w' → w'.heap[w2.heap.size]? = some (.cells #[.int .i64 k, .bool b, .int .i64 i, .string s, .slice p1 q1 r1, .slice p2 q2 r2] 25 (0, 0))) := fun w' hb' => (hb'.block _ hs3).trans hx3
    have B3 : Below W0.heap.size W0 W3 := nx B2 b3
    have ht3 := ht0.later B3
    have c23 := text_c ((HX.out W3 (Below.refl _ _)).plain) ht3
    obtain ⟨k0, k1, k2, k3, k4, k5⟩ := six_box hx3
    generalize hT : tx c = T at *
    generalize hE : te c = E at *
    clear hx hx3
    go_wp2_with fail
    refine c23.mono ?_
    rintro e w4 ⟨rfl, b4⟩
    have c24 := key_c ((HX.out w4 b4).plain)
    clear c23 k0 k1 k2 k3 k4 k5 hW3
    obtain ⟨k0, k1, k2, k3, k4, k5⟩ := six_box (HY.out w4 b4)
    generalize hK1 : kk c = K1 at *
    generalize hK2 : ki c = K2 at *
    generalize hK3 : ks c = K3 at *
    generalize hK4 : ke c = K4 at *
    go_wp2_with fail
    refine c24.mono ?_
    rintro e w5 ⟨rfl, b5⟩
    clear c24 k0 k1 k2 k3 k4 k5
    have B5 : Below W3.heap.size W3 w5 := nx b4 b5
    have C6 : Below w5.heap.size w5 (w5.alloc (.cells #[.int .i64 K1, .int .i64 K2, .string K3] 37)) := (Below.refl _ w5).alloc (Nat.le_refl _) _
    obtain ⟨k0, k1, k2, k3, k4, k5⟩ := six_box (HB.out _ (nx (nx B3 B5) C6))
    go_wp2_with fail
    clear k0 k1 k2 k3 k4 k5
    have hx6 := heap_alloc_new w5 (.cells #[.int .i64 K1, .int .i64 K2, .string K3] 37)
    have hs6 : w5.heap.size < (w5.alloc (.cells #[.int .i64 K1, .int .i64 K2, .string K3] 37)).heap.size := by simp
    generalize w5.alloc (.cells #[.int .i64 K1, .int .i64 K2, .string K3] 37) = W6 at *
    have B6 : Below W0.heap.size W0 W6 := nx (nx B3 B5) C6
    have c25 := rtext_c (HV.out _ B6)
    rw [hT, hE] at c25
    refine c25.mono ?_
    rintro e w7 ⟨rfl, b7⟩
    have B7 : Below W0.heap.size W0 w7 := nx B6 b7
    have c26 := rkey_c (HV.out _ B7)
    rw [hK1, hK2, hK3, hK4] at c26
    obtain ⟨k0, k1, k2, k3, k4, k5⟩ := six_box (HB.out _ B7)
    clear c25
    go_wp2_with fail
    refine c26.mono ?_
    rintro e w8 ⟨rfl, b8⟩
    clear c26 k0 k1 k2 k3 k4 k5
    have B8 : Below W0.heap.size W0 w8 := nx B7 b8
    have B86 : Below W6.heap.size W6 w8 := nx b7 b8
    have B83 : Below W3.heap.size W3 w8 := nx (nx B5 C6) B86
    obtain ⟨W9, hW9⟩ : ∃ W9, w8.alloc (.cells #[.int .i64 K1, .int .i64 K2, .string K3] 37) = W9 := ⟨_, rfl⟩
    have C9 : Below w8.heap.size w8 W9 := by rw [← hW9]; exact (Below.refl _ w8).alloc (Nat.le_refl _) _
    have hx9 : W9.heap[w8.heap.size]? = some (.cells #[.int .i64 K1, .int .i64 K2, .string K3] 37 (0, 0)) := by rw [← hW9]; exact heap_alloc_new w8 _
    have hx69 := ((nx B86 C9).block w5.heap.size hs6).trans hx6
    obtain ⟨k0, k1, k2, k3, k4, k5⟩ := six_box (HB.out _ (nx B8 C9))
    obtain ⟨y0, y1, y2, y3, y4, y5⟩ := six_box (HY.out _ (nx B83 C9))
    have z0 : W9.cell? ⟨w5.heap.size, 0, none⟩ = some (.int .i64 K1) := by simp [World.cell?, hx69]
    have z1 : W9.cell? ⟨w5.heap.size, 1, none⟩ = some (.int .i64 K2) := by simp [World.cell?, hx69]
    have z2 : W9.cell? ⟨w5.heap.size, 2, none⟩ = some (.string K3) := by simp [World.cell?, hx69]
    have z3 : W9.cell? ⟨w8.heap.size, 0, none⟩ = some (.int .i64 K1) := by simp [World.cell?, hx9]
    have z4 : W9.cell? ⟨w8.heap.size, 1, none⟩ = some (.int .i64 K2) := by simp [World.cell?, hx9]
    have z5 : W9.cell? ⟨w8.heap.size, 2, none⟩ = some (.string K3) := by simp [World.cell?, hx9]
    have hq : ∀ w, (binOp .eql 37 (.agg #[.int .i64 K1, .int .i64 K2, .string K3]) (.agg #[.int .i64 K1, .int .i64 K2, .string K3])).run Tryd.prog w = .ok (.bool true) w := fun w => by rw [eqKey]; simp
    have ht9 := ht0.later (nx B8 C9)
    have c18 := keptV_c m _ _ c W9 (HX.out _ (nx B83 C9)) (HV.out _ (nx B8 C9))
    clear HX HY HV HB hx6 hx9 hx69
    go_wp2_with (first
      | (go_at_call 14; refine (errno_c _ _).mono ?_; rintro e w' ⟨rfl, rfl⟩)
      | (go_at_call 18; refine c18.mono ?_; rintro e w10 ⟨rfl, b10⟩; have ht10 := ht9.later b10)
      | (go_at_call 19; refine (awake_c _ ht10).mono ?_; rintro e w11 ⟨rfl, b11⟩))
    go_ret
    exact ⟨rfl, nx b0 (nx (nx B8 C9) (nx b10 b11))⟩
end Go.Proofs.YtmoblfdepcjgfaaDoor.WTexts

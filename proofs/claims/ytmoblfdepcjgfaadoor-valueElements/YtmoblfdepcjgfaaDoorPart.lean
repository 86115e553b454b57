/- Parts of a value: contracts of slices.Index, element, Field and Index. -/
import Derived.Test.YtmoblfdepcjgfaaDoorCopied
import Derived.Test.YtmoblfdepcjgfaaDoorPart0
import Derived.Test.YtmoblfdepcjgfaaDoorEq
import Derived.Laws.ResultCell
namespace Go.Proofs.YtmoblfdepcjgfaaDoor.Part
open Go.RowKit Go.Proofs.YtmoblfdepcjgfaaDoor.Base Go.Proofs.YtmoblfdepcjgfaaDoor.Fresh Go.Proofs.YtmoblfdepcjgfaaDoor.Copied Go.Proofs.YtmoblfdepcjgfaaDoor.Eq
set_option linter.unusedVariables false

set_option maxRecDepth 20000 in
set_option maxHeartbeats 800000 in
theorem element_c {m : Nat} {v : Value} {c : C} {w : World} (h : In false All w m v c) (q : Int) (q0 : -9223372036854775808 ≤ q) (q1 : q ≤ 9223372036854775807) :
    Calls Tryd.prog 48 #[v, .int .i64 q] w (Ans m (eo c.l q) w.heap.size w) := by
  obtain ⟨m, nv, lv, rfl, rfl, -, -, -, hn, hl⟩ := h.shape
  obtain ⟨a, cap, rfl, hlc, hcm, hlen, hnil, hL⟩ := hl.out
  clear h hn hl
  obtain ⟨k, b, i, s, n, l⟩ := c
  simp only [C.k, C.b, C.i, C.s, C.l] at *
  obtain ⟨W0, hW0⟩ : ∃ W0, (w.alloc (.cells #[.int .i64 k, .bool b, .int .i64 i, .string s, nv, .slice a l.length cap] 25)).alloc (.cells #[.int .i64 0, .bool false, .int .i64 0, .string ⟨#[]⟩, .slice none 0 0, .slice none 0 0] 25) = W0 := ⟨_, rfl⟩
  have hb0 : Below w.heap.size w W0 := by rw [← hW0]; exact ((Below.refl _ w).alloc (Nat.le_refl _) _).alloc (by simp) _
  have hsz0 : W0.heap.size = w.heap.size + 2 := by rw [← hW0]; simp
  have hx0 : W0.heap[w.heap.size]? = some (.cells #[.int .i64 k, .bool b, .int .i64 i, .string s, nv, .slice a l.length cap] 25 (0, 0)) := by
    rw [← hW0, Below.heap_alloc _ _ _ (by simp), heap_alloc_new]
  have hx1 : W0.heap[w.heap.size + 1]? = some (.cells #[.int .i64 0, .bool false, .int .i64 0, .string ⟨#[]⟩, .slice none 0 0, .slice none 0 0] 25 (0, 0)) := by
    have := heap_alloc_new (w.alloc (.cells #[.int .i64 k, .bool b, .int .i64 i, .string s, nv, .slice a l.length cap] 25)) (.cells #[.int .i64 0, .bool false, .int .i64 0, .string ⟨#[]⟩, .slice none 0 0, .slice none 0 0] 25)
    rwa [hW0, World.size_alloc] at this
  obtain ⟨d0, d1, d2, d3, d4, d5⟩ := six_box hx0
  obtain ⟨e0, e1, e2, e3, e4, e5⟩ := six_box hx1
  have g0 := frozen_box hx1 0
  have g1 := frozen_box hx1 1
  have g2 := frozen_box hx1 2
  have g3 := frozen_box hx1 3
  have g4 := frozen_box hx1 4
  have g5 := frozen_box hx1 5
  by_cases h1 : q < 0
  · have e : eo l q = none := by simp [eo, h1]
    rw [e]
    have h1' : decide (q < 0) = true := decide_eq_true h1
    clear e h1'
    unfold Ans
    go_enter Tryd.func48, Tryd.ntmps48
    go_wp2_with fail
    obtain ⟨W3, hW3⟩ : ∃ W3, ((((((W0.setCell ⟨w.heap.size + 1, 0, none⟩ (.int .i64 0)).setCell ⟨w.heap.size + 1, 1, none⟩ (.bool false)).setCell ⟨w.heap.size + 1, 2, none⟩ (.int .i64 0)).setCell ⟨w.heap.size + 1, 3, none⟩ (.string ⟨#[]⟩)).setCell ⟨w.heap.size + 1, 4, none⟩ (.slice none 0 0)).setCell ⟨w.heap.size + 1, 5, none⟩ (.slice none 0 0)) = W3 := ⟨_, rfl⟩
    rw [hW3]
    obtain ⟨q1, q2, q3, q4⟩ := set6 _ _ _ _ _ _ hx1 hW3
    refine bodyPost_ret (res_row_tmp rfl _ W3 (w.heap.size + 1) 25 _ (0, 0) _ rfl q1 Tryd.underlying25 rfl (by kernel_rfl)) rfl ?_
    exact ⟨_, rfl, zV_fr _ _ _ (by omega) _, q4 _ _ (by omega) hb0⟩
  have h1' : decide (q < 0) = false := decide_eq_false h1
  obtain ⟨j, rfl⟩ := Int.eq_ofNat_of_zero_le (by omega : 0 ≤ q)
  by_cases h2 : l.length ≤ j
  · have e : eo l j = none := by simp [eo, h2]
    rw [e]
    have h2' : decide ((l.length : Int) ≤ (j : Int)) = true := decide_eq_true (by omega)
    clear e
    unfold Ans
    go_enter Tryd.func48, Tryd.ntmps48
    go_wp2_with fail
    obtain ⟨W3, hW3⟩ : ∃ W3, ((((((W0.setCell ⟨w.heap.size + 1, 0, none⟩ (.int .i64 0)).setCell ⟨w.heap.size + 1, 1, none⟩ (.bool false)).setCell ⟨w.heap.size + 1, 2, none⟩ (.int .i64 0)).setCell ⟨w.heap.size + 1, 3, none⟩ (.string ⟨#[]⟩)).setCell ⟨w.heap.size + 1, 4, none⟩ (.slice none 0 0)).setCell ⟨w.heap.size + 1, 5, none⟩ (.slice none 0 0)) = W3 := ⟨_, rfl⟩
    rw [hW3]
    obtain ⟨q1, q2, q3, q4⟩ := set6 _ _ _ _ _ _ hx1 hW3
    refine bodyPost_ret (res_row_tmp rfl _ W3 (w.heap.size + 1) 25 _ (0, 0) _ rfl q1 Tryd.underlying25 rfl (by kernel_rfl)) rfl ?_
    exact ⟨_, rfl, zV_fr _ _ _ (by omega) _, q4 _ _ (by omega) hb0⟩
  have h2' : decide ((l.length : Int) ≤ (j : Int)) = false := decide_eq_false (by omega)
  have hlt : j < l.length := by omega
  have e : eo l j = some l[j] := by simp [eo, hlt]
  rw [e]
  obtain ⟨g, o, x, rfl, -, hx, hin⟩ := elem_at hL hlt
  have hx := six_below hx hb0
  obtain ⟨x0, x1, x2, x3, x4, x5, rfl, t0, t1, t2, t3, t4, t5⟩ := hx
  have c60 := copied_c (hin.below hb0)
  clear e hL
  unfold Ans
  go_enter Tryd.func48, Tryd.ntmps48
  go_wp2_with fail
  refine c60.mono ?_
  rintro e w1 ⟨u, rfl, hfr, b1⟩
  have hy1 := (b1.block (w.heap.size + 1) (by omega)).trans hx1
  obtain ⟨y0, y1, y2, y3, y4, y5, rfl, -⟩ := hfr.in.six
  obtain ⟨a1, n1, c1, a2, n2, c2, rfl, rfl, rfl, rfl, rfl, rfl⟩ := hfr.in.kinds
  clear c60 hx0 hx1 hW0 d0 d1 d2 d3 d4 d5 e0 e1 e2 e3 e4 e5 g0 g1 g2 g3 g4 g5 t0 t1 t2 t3 t4 t5
  obtain ⟨e0, e1, e2, e3, e4, e5⟩ := six_box hy1
  have g0 := frozen_box hy1 0
  have g1 := frozen_box hy1 1
  have g2 := frozen_box hy1 2
  have g3 := frozen_box hy1 3
  have g4 := frozen_box hy1 4
  have g5 := frozen_box hy1 5
  obtain ⟨kk, hkk⟩ : ∃ kk, l[j].k = kk := ⟨_, rfl⟩
  obtain ⟨bb, hbb⟩ : ∃ bb, l[j].b = bb := ⟨_, rfl⟩
  obtain ⟨ii, hii⟩ : ∃ ii, l[j].i = ii := ⟨_, rfl⟩
  obtain ⟨ss, hss⟩ : ∃ ss, l[j].s = ss := ⟨_, rfl⟩
  rw [hkk, hbb, hii, hss] at hfr
  rw [hkk, hbb, hii, hss]
  clear hkk hbb hii hss hin
  go_wp2_with fail
  obtain ⟨W3, hW3⟩ : ∃ W3, ((((((w1.setCell ⟨w.heap.size + 1, 0, none⟩ (.int .i64 kk)).setCell ⟨w.heap.size + 1, 1, none⟩ (.bool bb)).setCell ⟨w.heap.size + 1, 2, none⟩ (.int .i64 ii)).setCell ⟨w.heap.size + 1, 3, none⟩ (.string ss)).setCell ⟨w.heap.size + 1, 4, none⟩ (.slice a1 n1 c1)).setCell ⟨w.heap.size + 1, 5, none⟩ (.slice a2 n2 c2)) = W3 := ⟨_, rfl⟩
  rw [hW3]
  obtain ⟨q1, q2, q3, q4⟩ := set6 _ _ _ _ _ _ hy1 hW3
  refine bodyPost_ret (res_row_tmp rfl _ W3 (w.heap.size + 1) 25 _ (0, 0) _ rfl q1 Tryd.underlying25 rfl (by kernel_rfl)) rfl ?_
  have hs1 := b1.size
  refine ⟨_, rfl, Fr.more (Fr.weak (hfr.keep fun x hx _ => q2 x (by have := hx.1; omega)) (by omega) (by omega)), q4 _ _ (by omega) (hb0.trans (b1.mono (by omega)))⟩
set_option maxRecDepth 20000 in
set_option maxHeartbeats 800000 in
theorem indexV_c {m : Nat} {v : Value} {c : C} {w : World} (h : In false All w m v c) (q : Int) (q0 : -9223372036854775808 ≤ q) (q1 : q ≤ 9223372036854775807) :
    Calls Tryd.prog 28 #[v, .int .i64 q] w (Ans m (io c q) w.heap.size w) := by
  have hin := h
  obtain ⟨m, nv, lv, rfl, rfl, -, -, -, hn, hl⟩ := h.shape
  clear h hn hl
  obtain ⟨k, b, i, s, n, l⟩ := c
  simp only [C.k, C.b, C.i, C.s] at *
  obtain ⟨W0, hW0⟩ : ∃ W0, (w.alloc (.cells #[.int .i64 k, .bool b, .int .i64 i, .string s, nv, lv] 25)).alloc (.cells #[.int .i64 0, .bool false, .int .i64 0, .string ⟨#[]⟩, .slice none 0 0, .slice none 0 0] 25) = W0 := ⟨_, rfl⟩
  have hb0 : Below w.heap.size w W0 := by rw [← hW0]; exact ((Below.refl _ w).alloc (Nat.le_refl _) _).alloc (by simp) _
  have hsz0 : W0.heap.size = w.heap.size + 2 := by rw [← hW0]; simp
  have hx0 : W0.heap[w.heap.size]? = some (.cells #[.int .i64 k, .bool b, .int .i64 i, .string s, nv, lv] 25 (0, 0)) := by
    rw [← hW0, Below.heap_alloc _ _ _ (by simp), heap_alloc_new]
  have hx1 : W0.heap[w.heap.size + 1]? = some (.cells #[.int .i64 0, .bool false, .int .i64 0, .string ⟨#[]⟩, .slice none 0 0, .slice none 0 0] 25 (0, 0)) := by
    have := heap_alloc_new (w.alloc (.cells #[.int .i64 k, .bool b, .int .i64 i, .string s, nv, lv] 25)) (.cells #[.int .i64 0, .bool false, .int .i64 0, .string ⟨#[]⟩, .slice none 0 0, .slice none 0 0] 25)
    rwa [hW0, World.size_alloc] at this
  obtain ⟨d0, d1, d2, d3, d4, d5⟩ := six_box hx0
  obtain ⟨e0, e1, e2, e3, e4, e5⟩ := six_box hx1
  have g0 := frozen_box hx1 0
  have g1 := frozen_box hx1 1
  have g2 := frozen_box hx1 2
  have g3 := frozen_box hx1 3
  have g4 := frozen_box hx1 4
  have g5 := frozen_box hx1 5
  by_cases h5 : ¬ k = 5
  · have e : io (.mk k b i s n l) q = none := by simp [io, C.k, h5]
    rw [e]
    have h5' : (k != 5) = true := by simp [h5]
    clear e hin
    unfold Ans
    go_enter Tryd.func28, Tryd.ntmps28
    go_wp2_with fail
    obtain ⟨W3, hW3⟩ : ∃ W3, ((((((W0.setCell ⟨w.heap.size + 1, 0, none⟩ (.int .i64 0)).setCell ⟨w.heap.size + 1, 1, none⟩ (.bool false)).setCell ⟨w.heap.size + 1, 2, none⟩ (.int .i64 0)).setCell ⟨w.heap.size + 1, 3, none⟩ (.string ⟨#[]⟩)).setCell ⟨w.heap.size + 1, 4, none⟩ (.slice none 0 0)).setCell ⟨w.heap.size + 1, 5, none⟩ (.slice none 0 0)) = W3 := ⟨_, rfl⟩
    rw [hW3]
    obtain ⟨q1, q2, q3, q4⟩ := set6 _ _ _ _ _ _ hx1 hW3
    refine bodyPost_ret (res_row_tmp rfl _ W3 (w.heap.size + 1) 25 _ (0, 0) _ rfl q1 Tryd.underlying25 rfl (by kernel_rfl)) rfl ?_
    exact ⟨_, rfl, zV_fr _ _ _ (by omega) _, q4 _ _ (by omega) hb0⟩
  have h5 : k = 5 := Decidable.of_not_not h5
  subst h5
  have e : io (.mk 5 b i s n l) q = eo l q := by simp [io, C.k, C.l]
  rw [e]
  have c48 := element_c (hin.below hb0) q q0 q1
  simp only [C.l] at c48
  generalize eo l q = o at *
  clear e hin
  unfold Ans
  go_enter Tryd.func28, Tryd.ntmps28
  go_wp2_with fail
  refine c48.mono ?_
  intro e w1 hA
  obtain ⟨kk, bb, ii, ss, a1, n1, c1, a2, n2, c2, rfl, HF, b1⟩ := hA.out (W := w)
  have hy1 := (b1.block (w.heap.size + 1) (by omega)).trans hx1
  clear c48 hA hx0 hx1 hW0 d0 d1 d2 d3 d4 d5 e0 e1 e2 e3 e4 e5 g0 g1 g2 g3 g4 g5
  obtain ⟨e0, e1, e2, e3, e4, e5⟩ := six_box hy1
  have g0 := frozen_box hy1 0
  have g1 := frozen_box hy1 1
  have g2 := frozen_box hy1 2
  have g3 := frozen_box hy1 3
  have g4 := frozen_box hy1 4
  have g5 := frozen_box hy1 5
  go_wp2_with fail
  obtain ⟨W3, hW3⟩ : ∃ W3, ((((((w1.setCell ⟨w.heap.size + 1, 0, none⟩ (.int .i64 kk)).setCell ⟨w.heap.size + 1, 1, none⟩ (.bool bb)).setCell ⟨w.heap.size + 1, 2, none⟩ (.int .i64 ii)).setCell ⟨w.heap.size + 1, 3, none⟩ (.string ss)).setCell ⟨w.heap.size + 1, 4, none⟩ (.slice a1 n1 c1)).setCell ⟨w.heap.size + 1, 5, none⟩ (.slice a2 n2 c2)) = W3 := ⟨_, rfl⟩
  rw [hW3]
  obtain ⟨q1, q2, q3, q4⟩ := set6 _ _ _ _ _ _ hy1 hW3
  refine bodyPost_ret (res_row_tmp rfl _ W3 (w.heap.size + 1) 25 _ (0, 0) _ rfl q1 Tryd.underlying25 rfl (by kernel_rfl)) rfl ?_
  have hs1 := b1.size
  exact ⟨_, rfl, Fr.weak (HF.out.keep fun x hx _ => q2 x (by have := hx.1; omega)) (by omega) (by omega), q4 _ _ (by omega) (hb0.trans (b1.mono (by omega)))⟩
set_option maxRecDepth 20000 in
set_option maxHeartbeats 1600000 in
theorem field_c {m : Nat} {v : Value} {c : C} {w : World} (h : In false All w m v c) (x : ByteArray) :
    Calls Tryd.prog 27 #[v, .string x] w (Ans m (fo c x) w.heap.size w) := by
  have hin := h
  obtain ⟨m, nv, lv, rfl, rfl, -, -, -, hn, hl⟩ := h.shape
  obtain ⟨na, nc, -, -, -, hn16, -⟩ := hn.out
  clear h hl
  obtain ⟨k, b, i, s, n, l⟩ := c
  simp only [C.k, C.b, C.i, C.s, C.n] at *
  obtain ⟨W0, hW0⟩ : ∃ W0, (w.alloc (.cells #[.int .i64 k, .bool b, .int .i64 i, .string s, nv, lv] 25)).alloc (.cells #[.int .i64 0, .bool false, .int .i64 0, .string ⟨#[]⟩, .slice none 0 0, .slice none 0 0] 25) = W0 := ⟨_, rfl⟩
  have hb0 : Below w.heap.size w W0 := by rw [← hW0]; exact ((Below.refl _ w).alloc (Nat.le_refl _) _).alloc (by simp) _
  have hsz0 : W0.heap.size = w.heap.size + 2 := by rw [← hW0]; simp
  have hx0 : W0.heap[w.heap.size]? = some (.cells #[.int .i64 k, .bool b, .int .i64 i, .string s, nv, lv] 25 (0, 0)) := by
    rw [← hW0, Below.heap_alloc _ _ _ (by simp), heap_alloc_new]
  have hx1 : W0.heap[w.heap.size + 1]? = some (.cells #[.int .i64 0, .bool false, .int .i64 0, .string ⟨#[]⟩, .slice none 0 0, .slice none 0 0] 25 (0, 0)) := by
    have := heap_alloc_new (w.alloc (.cells #[.int .i64 k, .bool b, .int .i64 i, .string s, nv, lv] 25)) (.cells #[.int .i64 0, .bool false, .int .i64 0, .string ⟨#[]⟩, .slice none 0 0, .slice none 0 0] 25)
    rwa [hW0, World.size_alloc] at this
  obtain ⟨d0, d1, d2, d3, d4, d5⟩ := six_box hx0
  obtain ⟨e0, e1, e2, e3, e4, e5⟩ := six_box hx1
  have g0 := frozen_box hx1 0
  have g1 := frozen_box hx1 1
  have g2 := frozen_box hx1 2
  have g3 := frozen_box hx1 3
  have g4 := frozen_box hx1 4
  have g5 := frozen_box hx1 5
  by_cases h6 : ¬ k = 6
  · have e : fo (.mk k b i s n l) x = none := by simp [fo, C.k, h6]
    rw [e]
    have h6' : (k != 6) = true := by simp [h6]
    clear e hin hn
    unfold Ans
    go_enter Tryd.func27, Tryd.ntmps27
    go_wp2_with fail
    obtain ⟨W3, hW3⟩ : ∃ W3, ((((((W0.setCell ⟨w.heap.size + 1, 0, none⟩ (.int .i64 0)).setCell ⟨w.heap.size + 1, 1, none⟩ (.bool false)).setCell ⟨w.heap.size + 1, 2, none⟩ (.int .i64 0)).setCell ⟨w.heap.size + 1, 3, none⟩ (.string ⟨#[]⟩)).setCell ⟨w.heap.size + 1, 4, none⟩ (.slice none 0 0)).setCell ⟨w.heap.size + 1, 5, none⟩ (.slice none 0 0)) = W3 := ⟨_, rfl⟩
    rw [hW3]
    obtain ⟨q1, q2, q3, q4⟩ := set6 _ _ _ _ _ _ hx1 hW3
    refine bodyPost_ret (res_row_tmp rfl _ W3 (w.heap.size + 1) 25 _ (0, 0) _ rfl q1 Tryd.underlying25 rfl (by kernel_rfl)) rfl ?_
    exact ⟨_, rfl, zV_fr _ _ _ (by omega) _, q4 _ _ (by omega) hb0⟩
  have h6 : k = 6 := Decidable.of_not_not h6
  subst h6
  have e : fo (.mk 6 b i s n l) x = eo l (fiI n x) := by simp [fo, C.k, C.l, C.n]
  rw [e]
  have hfi : -9223372036854775808 ≤ fiI n x ∧ fiI n x ≤ 9223372036854775807 := by
    unfold fiI
    split
    · omega
    · rename_i j hj
      have := fi_lt hj
      omega
  have c49 : Calls Tryd.prog 49 #[nv, .string x] W0.drew fun e w1 => e = .returned (.int .i64 (fiI n x)) ∧ (w1.cell? ⟨w.heap.size, 0, none⟩ = some (.int .i64 6) ∧ w1.cell? ⟨w.heap.size, 1, none⟩ = some (.bool b) ∧ w1.cell? ⟨w.heap.size, 2, none⟩ = some (.int .i64 i) ∧ w1.cell? ⟨w.heap.size, 3, none⟩ = some (.string s) ∧ w1.cell? ⟨w.heap.size, 4, none⟩ = some (nv) ∧ w1.cell? ⟨w.heap.size, 5, none⟩ = some (lv)) ∧ Hid (Below W0.heap.size W0 w1) := by
    refine (index_c nv n x W0.drew ((hn.below hb0).below (Below.refl W0.heap.size W0).drew)).mono ?_
    rintro e w1 ⟨rfl, b1⟩
    have b2 : Below W0.heap.size W0 w1 := (Below.refl W0.heap.size W0).drew.trans b1
    exact ⟨rfl, six_box ((b2.block w.heap.size (by omega)).trans hx0), b2⟩
  have c48 : ∀ w1, Hid (Below W0.heap.size W0 w1) → Calls Tryd.prog 48 #[.agg #[.int .i64 6, .bool b, .int .i64 i, .string s, nv, lv], .int .i64 (fiI n x)] w1 fun e w2 => ∃ kk bb ii ss a1 n1 c1 a2 n2 c2, e = .returned (.tuple #[.agg #[.int .i64 kk, .bool bb, .int .i64 ii, .string ss, .slice a1 n1 c1, .slice a2 n2 c2], .int .i64 (oe (eo l (fiI n x)))]) ∧
      (w2.cell? ⟨w.heap.size + 1, 0, none⟩ = some (.int .i64 0) ∧ w2.cell? ⟨w.heap.size + 1, 1, none⟩ = some (.bool false) ∧ w2.cell? ⟨w.heap.size + 1, 2, none⟩ = some (.int .i64 0) ∧ w2.cell? ⟨w.heap.size + 1, 3, none⟩ = some (.string ⟨#[]⟩) ∧ w2.cell? ⟨w.heap.size + 1, 4, none⟩ = some (.slice none 0 0) ∧ w2.cell? ⟨w.heap.size + 1, 5, none⟩ = some (.slice none 0 0)) ∧ (w2.frozen? ⟨w.heap.size + 1, 0, none⟩ = false ∧ w2.frozen? ⟨w.heap.size + 1, 1, none⟩ = false ∧ w2.frozen? ⟨w.heap.size + 1, 2, none⟩ = false ∧ w2.frozen? ⟨w.heap.size + 1, 3, none⟩ = false ∧ w2.frozen? ⟨w.heap.size + 1, 4, none⟩ = false ∧ w2.frozen? ⟨w.heap.size + 1, 5, none⟩ = false) ∧
      Hid (w2.heap[w.heap.size + 1]? = some (.cells #[.int .i64 0, .bool false, .int .i64 0, .string ⟨#[]⟩, .slice none 0 0, .slice none 0 0] 25 (0, 0)) ∧ Fr w2 (m + 1) W0.heap.size w2.heap.size (.agg #[.int .i64 kk, .bool bb, .int .i64 ii, .string ss, .slice a1 n1 c1, .slice a2 n2 c2]) (oc (eo l (fiI n x))) ∧ Below W0.heap.size W0 w2) := by
    intro w1 b1
    refine (element_c ((hin.below hb0).below b1.out) (fiI n x) hfi.1 hfi.2).mono ?_
    intro e w2 hA
    obtain ⟨kk, bb, ii, ss, a1, n1, c1, a2, n2, c2, rfl, HF, b2⟩ := hA.out (W := w)
    have b3 := nx b1.out b2
    have hy1 := (b3.block (w.heap.size + 1) (by omega)).trans hx1
    have hs1 := b1.out.size
    exact ⟨_, _, _, _, _, _, _, _, _, _, rfl, six_box hy1, ⟨frozen_box hy1 0, frozen_box hy1 1, frozen_box hy1 2, frozen_box hy1 3, frozen_box hy1 4, frozen_box hy1 5⟩, hy1, Fr.weak HF.out hs1 (Nat.le_refl _), b3⟩
  generalize fiI n x = f at *
  generalize eo l f = o at *
  clear e hin hn hfi
  unfold Ans
  go_enter Tryd.func27, Tryd.ntmps27
  go_wp2_with fail
  clear hW0
  go_region_with (first
    | (go_at_call 48; refine (c48 _ HB).mono ?_; rintro e w2 ⟨kk, bb, ii, ss, a1, n1, c1, a2, n2, c2, rfl, ⟨u0, u1, u2, u3, u4, u5⟩, ⟨z0, z1, z2, z3, z4, z5⟩, HF⟩)
    | (go_at_call 49; refine c49.mono ?_; rintro e w1 ⟨rfl, ⟨y0, y1, y2, y3, y4, y5⟩, HB⟩))
  all_goals go_wp2_with fail
  all_goals obtain ⟨W3, hW3⟩ : ∃ W3, ((((((w2.setCell ⟨w.heap.size + 1, 0, none⟩ (.int .i64 kk)).setCell ⟨w.heap.size + 1, 1, none⟩ (.bool bb)).setCell ⟨w.heap.size + 1, 2, none⟩ (.int .i64 ii)).setCell ⟨w.heap.size + 1, 3, none⟩ (.string ss)).setCell ⟨w.heap.size + 1, 4, none⟩ (.slice a1 n1 c1)).setCell ⟨w.heap.size + 1, 5, none⟩ (.slice a2 n2 c2)) = W3 := ⟨_, rfl⟩
  all_goals rw [hW3]
  all_goals obtain ⟨q1, q2, q3, q4⟩ := set6 _ _ _ _ _ _ HF.out.1 hW3
  all_goals refine bodyPost_ret (res_row_tmp rfl _ W3 (w.heap.size + 1) 25 _ (0, 0) _ rfl q1 Tryd.underlying25 rfl (by kernel_rfl)) rfl ?_
  all_goals have hs1 := HF.out.2.2.size
  all_goals exact ⟨_, rfl, Fr.weak (HF.out.2.1.keep fun x hx _ => q2 x (by have := hx.1; omega)) (by omega) (by omega), q4 _ _ (by omega) (hb0.trans (HF.out.2.2.mono (by omega)))⟩
end Go.Proofs.YtmoblfdepcjgfaaDoor.Part

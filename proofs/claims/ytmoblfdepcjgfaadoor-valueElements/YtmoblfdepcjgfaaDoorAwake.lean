/- What every program answers: contract of awake. -/
import Derived.Test.YtmoblfdepcjgfaaDoorFacts
import Derived.Test.YtmoblfdepcjgfaaDoorSame
import Derived.Deep.RegionHeld3
namespace Go.Proofs.YtmoblfdepcjgfaaDoor.Awake
open Go.RowKit Go.Proofs.YtmoblfdepcjgfaaDoor.Base Go.Proofs.YtmoblfdepcjgfaaDoor.Digits Go.Proofs.YtmoblfdepcjgfaaDoor.Facts Go.Proofs.YtmoblfdepcjgfaaDoor.Part Go.Proofs.YtmoblfdepcjgfaaDoor.TextKey Go.Proofs.YtmoblfdepcjgfaaDoor.Measure Go.Proofs.YtmoblfdepcjgfaaDoor.Same Go.Proofs.YtmoblfdepcjgfaaDoor.Shallow
set_option linter.unusedVariables false

set_option maxRecDepth 20000 in
set_option maxHeartbeats 3200000 in
theorem awake_c (w : World) (ht : Tab w) : Calls Tryd.prog 19 #[] w fun e w' => e = .returned (.bool true) ∧ Below w.heap.size w w' := by
  obtain ⟨w0, hw0⟩ : ∃ w0, w.alloc (.cells #[.string ⟨#[97]⟩] 9) = w0 := ⟨_, rfl⟩
  have b0 : Below w.heap.size w w0 := by rw [← hw0]; exact (Below.refl _ w).alloc (Nat.le_refl _) _
  have hs0 : w0.heap.size = w.heap.size + 1 := by rw [← hw0]; simp
  have hx0 : w0.heap[w.heap.size]? = some (.cells #[.string ⟨#[97]⟩] 9 (0, 0)) := by rw [← hw0, heap_alloc_new]
  have c41 := num_c 3 w0
  go_enter Tryd.func19, Tryd.ntmps19
  go_wp2_with fail
  refine c41.mono ?_
  rintro e w1 ⟨rfl, b1⟩
  have hx1 := (b1.block w.heap.size (by omega)).trans hx0
  have hs1 := b1.size
  clear c41 hx0 hw0
  obtain ⟨w2, hw2⟩ : ∃ w2, w1.alloc (.cells #[.int .i64 3, .bool false, .int .i64 3, .string ⟨#[]⟩, .slice none 0 0, .slice none 0 0] 25) = w2 := ⟨_, rfl⟩
  obtain ⟨w3, hw3⟩ : ∃ w3, w2.alloc (.cells #[.int .i64 6, .bool false, .int .i64 0, .string ⟨#[]⟩, .slice (some ⟨w.heap.size, 0, none⟩) 1 1, .slice (some ⟨w1.heap.size, 0, none⟩) 1 1] 25) = w3 := ⟨_, rfl⟩
  have hs2 : w2.heap.size = w1.heap.size + 1 := by rw [← hw2]; simp
  have hs3 : w3.heap.size = w2.heap.size + 1 := by rw [← hw3]; simp
  have b2 : Below w1.heap.size w1 w2 := by rw [← hw2]; exact (Below.refl _ w1).alloc (Nat.le_refl _) _
  have b3 : Below w2.heap.size w2 w3 := by rw [← hw3]; exact (Below.refl _ w2).alloc (Nat.le_refl _) _
  have hy2 : w2.heap[w1.heap.size]? = some (.cells #[.int .i64 3, .bool false, .int .i64 3, .string ⟨#[]⟩, .slice none 0 0, .slice none 0 0] 25 (0, 0)) := by rw [← hw2, heap_alloc_new]
  have hP3 : w3.heap[w2.heap.size]? = some (.cells #[.int .i64 6, .bool false, .int .i64 0, .string ⟨#[]⟩, .slice (some ⟨w.heap.size, 0, none⟩) 1 1, .slice (some ⟨w1.heap.size, 0, none⟩) 1 1] 25 (0, 0)) := by rw [← hw3, heap_alloc_new]
  have hy3 := (b3.block w1.heap.size (by omega)).trans hy2
  have hz3 := (b3.block w.heap.size (by omega)).trans ((b2.block w.heap.size (by omega)).trans hx1)
  have B3 : Below w.heap.size w w3 := nx (nx (nx b0 b1) b2) b3
  have VI3 : In false All w3 2 (.agg #[.int .i64 6, .bool false, .int .i64 0, .string ⟨#[]⟩, .slice (some ⟨w.heap.size, 0, none⟩) 1 1, .slice (some ⟨w1.heap.size, 0, none⟩) 1 1]) vC := by
    rw [vC, in_iff]
    refine ⟨_, _, rfl, by omega, by omega, by decide, ?_, ?_⟩
    · refine ⟨_, 1, rfl, by simp, by decide, by simp, by intro t ht; simp at ht; subst ht; decide, (fun h => by cases h), .inr ⟨w.heap.size, 0, rfl, trivial, fun j hj => ?_, fun h => by cases h⟩⟩
      have : j = 0 := by simp at hj; omega
      subst this
      simp [World.cell?, hz3]
    · refine ⟨_, 1, rfl, by simp, by decide, by simp, (fun h => by cases h), .inr ⟨w1.heap.size, 0, rfl, trivial, fun j hj => ?_, fun h => by cases h⟩⟩
      have : j = 0 := by simp at hj; omega
      subst this
      obtain ⟨q0, q1, q2, q3, q4, q5⟩ := six_box hy3
      exact ⟨_, ⟨_, _, _, _, _, _, rfl, q0, q1, q2, q3, q4, q5⟩, plain_in _ 3 3 (by omega) (by omega) 0⟩
  obtain ⟨P, hP⟩ : ∃ P, w2.heap.size = P := ⟨_, rfl⟩
  rw [hP] at hP3
  have hP3s : P < w3.heap.size := by omega
  have VI : ∀ w', Below w3.heap.size w3 w' → In false All w' 2 (.agg #[.int .i64 6, .bool false, .int .i64 0, .string ⟨#[]⟩, .slice (some ⟨w.heap.size, 0, none⟩) 1 1, .slice (some ⟨w1.heap.size, 0, none⟩) 1 1]) vC := fun w' h => VI3.below h
  have VB : ∀ w', Below w3.heap.size w3 w' → w'.heap[P]? = some (.cells #[.int .i64 6, .bool false, .int .i64 0, .string ⟨#[]⟩, .slice (some ⟨w.heap.size, 0, none⟩) 1 1, .slice (some ⟨w1.heap.size, 0, none⟩) 1 1] 25 (0, 0)) := fun w' h => (h.block P (by omega)).trans hP3
  have c27 : Calls Tryd.prog 27 #[.agg #[.int .i64 6, .bool false, .int .i64 0, .string ⟨#[]⟩, .slice (some ⟨w.heap.size, 0, none⟩) 1 1, .slice (some ⟨w1.heap.size, 0, none⟩) 1 1], .string ⟨#[97]⟩] w3 fun e w4 => ∃ a1 n1 c1 a2 n2 c2, e = .returned (.tuple #[.agg #[.int .i64 3, .bool false, .int .i64 3, .string ⟨#[]⟩, .slice a1 n1 c1, .slice a2 n2 c2], .int .i64 0]) ∧ Below w3.heap.size w3 w4 := by
    have h := field_c VI3 ⟨#[97]⟩
    rw [fo_v] at h
    refine h.mono ?_
    rintro e w4 ⟨u, rfl, hfr, b4⟩
    obtain ⟨y0, y1, y2, y3, y4, y5, rfl, -⟩ := hfr.in.six
    obtain ⟨a1, n1, c1, a2, n2, c2, rfl, rfl, rfl, rfl, rfl, rfl⟩ := hfr.in.kinds
    exact ⟨a1, n1, c1, a2, n2, c2, rfl, b4⟩
  have HVI : Hid (∀ w', Below w3.heap.size w3 w' → In false All w' 2 (.agg #[.int .i64 6, .bool false, .int .i64 0, .string ⟨#[]⟩, .slice (some ⟨w.heap.size, 0, none⟩) 1 1, .slice (some ⟨w1.heap.size, 0, none⟩) 1 1]) vC) := VI
  have HVB : Hid (∀ w', Below w3.heap.size w3 w' → w'.heap[P]? = some (.cells #[.int .i64 6, .bool false, .int .i64 0, .string ⟨#[]⟩, .slice (some ⟨w.heap.size, 0, none⟩) 1 1, .slice (some ⟨w1.heap.size, 0, none⟩) 1 1] 25 (0, 0))) := VB
  obtain ⟨k0, k1, k2, k3, k4, k5⟩ := six_box hP3
  have ht3 := ht.later B3
  clear VI VB VI3 hP3 hy2 hy3 hz3 hx1 b0 b1 b2 b3 ht hs0 hs2 hs3
  go_wp2_with fail
  refine c27.mono ?_
  rintro e w4 ⟨a1, n1, c1, a2, n2, c2, rfl, b4⟩
  clear c27 k0 k1 k2 k3 k4 k5 hw2 hw3 hP
  obtain ⟨w5, hw5⟩ : ∃ w5, w4.alloc (.cells #[.int .i64 3, .bool false, .int .i64 3, .string ⟨#[]⟩, .slice a1 n1 c1, .slice a2 n2 c2] 25) = w5 := ⟨_, rfl⟩
  have b5 : Below w3.heap.size w3 w5 := by rw [← hw5]; exact b4.alloc b4.size _
  have hs5 : w4.heap.size < w5.heap.size := by rw [← hw5]; simp
  have hA5 : w5.heap[w4.heap.size]? = some (.cells #[.int .i64 3, .bool false, .int .i64 3, .string ⟨#[]⟩, .slice a1 n1 c1, .slice a2 n2 c2] 25 (0, 0)) := by rw [← hw5, heap_alloc_new]
  have c41 := num_c 4 w5
  go_wp2_with fail
  refine c41.mono ?_
  rintro e w6 ⟨rfl, b6⟩
  have c24 : Calls Tryd.prog 24 #[.agg #[.int .i64 3, .bool false, .int .i64 4, .string ⟨#[]⟩, .slice none 0 0, .slice none 0 0]] w6 fun e w7 => e = .returned (.tuple #[.agg #[.int .i64 3, .int .i64 4, .string ⟨#[]⟩], .int .i64 0]) ∧ Below w6.heap.size w6 w7 := key_c (plain_in w6 3 4 (by omega) (by omega) 0)
  clear c41 hw5
  go_wp2_with fail
  refine c24.mono ?_
  rintro e w7 ⟨rfl, b7⟩
  clear c24
  go_wp2_with fail
  obtain ⟨w8, hw8⟩ : ∃ w8, w7.alloc (.cells #[.int .i64 3, .int .i64 4, .string ⟨#[]⟩] 37) = w8 := ⟨_, rfl⟩
  have b8 : Below w7.heap.size w7 w8 := by rw [← hw8]; exact (Below.refl _ w7).alloc (Nat.le_refl _) _
  have hs8 : w7.heap.size < w8.heap.size := by rw [← hw8]; simp
  have hK8 : w8.heap[w7.heap.size]? = some (.cells #[.int .i64 3, .int .i64 4, .string ⟨#[]⟩] 37 (0, 0)) := by rw [← hw8, heap_alloc_new]
  rw [hw8]
  refine (num_c (-5) w8).mono ?_
  rintro e w9 ⟨rfl, b9⟩
  have b78 := nx (nx b7 b8) b9
  have B9 : Below w3.heap.size w3 w9 := nx (nx b5 b6) b78
  have c23 : Calls Tryd.prog 23 #[.agg #[.int .i64 3, .bool false, .int .i64 (-5), .string ⟨#[]⟩, .slice none 0 0, .slice none 0 0]] w9 fun e w' => e = .returned (.tuple #[.string ⟨#[45, 53]⟩, .int .i64 0]) ∧ Below w9.heap.size w9 w' := by
    have h := text_c (plain_in w9 3 (-5) (by omega) (by omega) 0) (ht3.later B9)
    have e := text_n
    unfold numC at e
    rw [e.1, e.2] at h
    exact h
  clear hw8
  go_wp2_with fail
  refine c23.mono ?_
  rintro e w10 ⟨rfl, b10⟩
  have c11 : Calls Tryd.prog 11 #[.agg #[.int .i64 9, .bool false, .int .i64 0, .string ⟨#[]⟩, .slice none 0 0, .slice none 0 0]] w10 fun e w' => e = .returned (.int .i64 500) ∧ Below w10.heap.size w10 w' := by
    have h := check_c (plain_in w10 9 0 (by omega) (by omega) 0) (by simp [dep, depL])
    rw [ms_9] at h
    exact h
  clear c23
  go_wp2_with fail
  refine c11.mono ?_
  rintro e w11 ⟨rfl, b11⟩
  have B11 : Below w3.heap.size w3 w11 := nx (nx B9 b10) b11
  have c11' : Calls Tryd.prog 11 #[.agg #[.int .i64 6, .bool false, .int .i64 0, .string ⟨#[]⟩, .slice (some ⟨w.heap.size, 0, none⟩) 1 1, .slice (some ⟨w1.heap.size, 0, none⟩) 1 1]] w11 fun e w' => e = .returned (.int .i64 0) ∧ Below w11.heap.size w11 w' := by
    have h := check_c (HVI.out w11 B11) (by simp [vC, numC, dep, depL])
    rw [ms_v] at h
    exact h
  obtain ⟨k0, k1, k2, k3, k4, k5⟩ := six_box (HVB.out w11 B11)
  clear c11
  go_wp2_with fail
  refine c11'.mono ?_
  rintro e W7 ⟨rfl, b12⟩
  have B12 : Below w3.heap.size w3 W7 := nx B11 b12
  have BW : Below w.heap.size w W7 := nx B3 B12
  have hA : W7.heap[w4.heap.size]? = some (.cells #[.int .i64 3, .bool false, .int .i64 3, .string ⟨#[]⟩, .slice a1 n1 c1, .slice a2 n2 c2] 25 (0, 0)) := ((nx (nx (nx (nx b6 b78) b10) b11) b12).block _ (by omega)).trans hA5
  have hK : W7.heap[w7.heap.size]? = some (.cells #[.int .i64 3, .int .i64 4, .string ⟨#[]⟩] 37 (0, 0)) := ((nx (nx (nx b9 b10) b11) b12).block _ (by omega)).trans hK8
  clear c11' hA5 hK8 b4 b5 b6 b7 b8 b9 b10 b11 b12 b78 B9 B11 ht3 k0 k1 k2 k3 k4 k5
  have SS : ∀ w2, Below W7.heap.size W7 w2 → (w2.cell? ⟨P, 0, none⟩ = some (.int .i64 6) ∧ w2.cell? ⟨P, 1, none⟩ = some (.bool false) ∧ w2.cell? ⟨P, 2, none⟩ = some (.int .i64 0) ∧ w2.cell? ⟨P, 3, none⟩ = some (.string ⟨#[]⟩) ∧ w2.cell? ⟨P, 4, none⟩ = some (.slice (some ⟨w.heap.size, 0, none⟩) 1 1) ∧ w2.cell? ⟨P, 5, none⟩ = some (.slice (some ⟨w1.heap.size, 0, none⟩) 1 1) ∧ w2.cell? ⟨w4.heap.size, 2, none⟩ = some (.int .i64 3) ∧ w2.cell? ⟨w7.heap.size, 1, none⟩ = some (.int .i64 4) ∧ Hid (Below W7.heap.size W7 w2)) := by
    intro w2 hb
    obtain ⟨k0, k1, k2, k3, k4, k5⟩ := six_box (HVB.out w2 (nx B12 hb))
    have q2 := (six_box ((hb.block _ (Array.getElem?_eq_some_iff.1 hA).1).trans hA)).2.2.1
    have qk : w2.cell? ⟨w7.heap.size, 1, none⟩ = some (.int .i64 4) := by
      have h := (hb.block _ (Array.getElem?_eq_some_iff.1 hK).1).trans hK
      simp [World.cell?, h]
    exact ⟨k0, k1, k2, k3, k4, k5, q2, qk, hb⟩
  have c12 : ∀ w', Hid (Below W7.heap.size W7 w') → Calls Tryd.prog 12 #[.agg #[.int .i64 6, .bool false, .int .i64 0, .string ⟨#[]⟩, .slice (some ⟨w.heap.size, 0, none⟩) 1 1, .slice (some ⟨w1.heap.size, 0, none⟩) 1 1]] w' fun e w2 => e = .returned (.int .i64 2) ∧ (w2.cell? ⟨P, 0, none⟩ = some (.int .i64 6) ∧ w2.cell? ⟨P, 1, none⟩ = some (.bool false) ∧ w2.cell? ⟨P, 2, none⟩ = some (.int .i64 0) ∧ w2.cell? ⟨P, 3, none⟩ = some (.string ⟨#[]⟩) ∧ w2.cell? ⟨P, 4, none⟩ = some (.slice (some ⟨w.heap.size, 0, none⟩) 1 1) ∧ w2.cell? ⟨P, 5, none⟩ = some (.slice (some ⟨w1.heap.size, 0, none⟩) 1 1) ∧ w2.cell? ⟨w4.heap.size, 2, none⟩ = some (.int .i64 3) ∧ w2.cell? ⟨w7.heap.size, 1, none⟩ = some (.int .i64 4) ∧ Hid (Below W7.heap.size W7 w2)) := by
    intro w' hb
    refine (depth_c (HVI.out _ (nx B12 hb.out)) (by simp [vC, numC, dep, depL])).mono ?_
    rintro e w2 ⟨rfl, b2⟩
    exact ⟨by first | rfl | simp [ms_v], SS w2 (nx hb.out b2)⟩
  have c13 : ∀ w', Hid (Below W7.heap.size W7 w') → Calls Tryd.prog 13 #[.agg #[.int .i64 6, .bool false, .int .i64 0, .string ⟨#[]⟩, .slice (some ⟨w.heap.size, 0, none⟩) 1 1, .slice (some ⟨w1.heap.size, 0, none⟩) 1 1]] w' fun e w2 => e = .returned (.int .i64 2) ∧ (w2.cell? ⟨P, 0, none⟩ = some (.int .i64 6) ∧ w2.cell? ⟨P, 1, none⟩ = some (.bool false) ∧ w2.cell? ⟨P, 2, none⟩ = some (.int .i64 0) ∧ w2.cell? ⟨P, 3, none⟩ = some (.string ⟨#[]⟩) ∧ w2.cell? ⟨P, 4, none⟩ = some (.slice (some ⟨w.heap.size, 0, none⟩) 1 1) ∧ w2.cell? ⟨P, 5, none⟩ = some (.slice (some ⟨w1.heap.size, 0, none⟩) 1 1) ∧ w2.cell? ⟨w4.heap.size, 2, none⟩ = some (.int .i64 3) ∧ w2.cell? ⟨w7.heap.size, 1, none⟩ = some (.int .i64 4) ∧ Hid (Below W7.heap.size W7 w2)) := by
    intro w' hb
    refine (count_c (HVI.out _ (nx B12 hb.out)) (by simp [vC, numC, dep, depL])).mono ?_
    rintro e w2 ⟨rfl, b2⟩
    exact ⟨by first | rfl | simp [ms_v], SS w2 (nx hb.out b2)⟩
  have c20 : ∀ w', Hid (Below W7.heap.size W7 w') → Calls Tryd.prog 20 #[.agg #[.int .i64 6, .bool false, .int .i64 0, .string ⟨#[]⟩, .slice (some ⟨w.heap.size, 0, none⟩) 1 1, .slice (some ⟨w1.heap.size, 0, none⟩) 1 1], .agg #[.int .i64 6, .bool false, .int .i64 0, .string ⟨#[]⟩, .slice (some ⟨w.heap.size, 0, none⟩) 1 1, .slice (some ⟨w1.heap.size, 0, none⟩) 1 1]] w' fun e w2 => e = .returned (.bool true) ∧ (w2.cell? ⟨P, 0, none⟩ = some (.int .i64 6) ∧ w2.cell? ⟨P, 1, none⟩ = some (.bool false) ∧ w2.cell? ⟨P, 2, none⟩ = some (.int .i64 0) ∧ w2.cell? ⟨P, 3, none⟩ = some (.string ⟨#[]⟩) ∧ w2.cell? ⟨P, 4, none⟩ = some (.slice (some ⟨w.heap.size, 0, none⟩) 1 1) ∧ w2.cell? ⟨P, 5, none⟩ = some (.slice (some ⟨w1.heap.size, 0, none⟩) 1 1) ∧ w2.cell? ⟨w4.heap.size, 2, none⟩ = some (.int .i64 3) ∧ w2.cell? ⟨w7.heap.size, 1, none⟩ = some (.int .i64 4) ∧ Hid (Below W7.heap.size W7 w2)) := by
    intro w' hb
    refine (same_c (HVI.out _ (nx B12 hb.out)) (HVI.out _ (nx B12 hb.out))).mono ?_
    rintro e w2 ⟨rfl, b2⟩
    exact ⟨by first | rfl | simp [same_v], SS w2 (nx hb.out b2)⟩
  have c20n : ∀ w', Hid (Below W7.heap.size W7 w') → Calls Tryd.prog 20 #[.agg #[.int .i64 6, .bool false, .int .i64 0, .string ⟨#[]⟩, .slice (some ⟨w.heap.size, 0, none⟩) 1 1, .slice (some ⟨w1.heap.size, 0, none⟩) 1 1], .agg #[.int .i64 3, .bool false, .int .i64 3, .string ⟨#[]⟩, .slice none 0 0, .slice none 0 0]] w' fun e w2 => e = .returned (.bool false) ∧ (w2.cell? ⟨P, 0, none⟩ = some (.int .i64 6) ∧ w2.cell? ⟨P, 1, none⟩ = some (.bool false) ∧ w2.cell? ⟨P, 2, none⟩ = some (.int .i64 0) ∧ w2.cell? ⟨P, 3, none⟩ = some (.string ⟨#[]⟩) ∧ w2.cell? ⟨P, 4, none⟩ = some (.slice (some ⟨w.heap.size, 0, none⟩) 1 1) ∧ w2.cell? ⟨P, 5, none⟩ = some (.slice (some ⟨w1.heap.size, 0, none⟩) 1 1) ∧ w2.cell? ⟨w4.heap.size, 2, none⟩ = some (.int .i64 3) ∧ w2.cell? ⟨w7.heap.size, 1, none⟩ = some (.int .i64 4) ∧ Hid (Below W7.heap.size W7 w2)) := by
    intro w' hb
    refine (same_c (HVI.out _ (nx B12 hb.out)) (plain_in _ 3 3 (by omega) (by omega) 0)).mono ?_
    rintro e w2 ⟨rfl, b2⟩
    exact ⟨by first | rfl | simp [ms_v, same_v, same_n], SS w2 (nx hb.out b2)⟩
  have c41 : ∀ w', Hid (Below W7.heap.size W7 w') → Calls Tryd.prog 41 #[.int .i64 3] w' fun e w2 => e = .returned (.agg #[.int .i64 3, .bool false, .int .i64 3, .string ⟨#[]⟩, .slice none 0 0, .slice none 0 0]) ∧ (w2.cell? ⟨P, 0, none⟩ = some (.int .i64 6) ∧ w2.cell? ⟨P, 1, none⟩ = some (.bool false) ∧ w2.cell? ⟨P, 2, none⟩ = some (.int .i64 0) ∧ w2.cell? ⟨P, 3, none⟩ = some (.string ⟨#[]⟩) ∧ w2.cell? ⟨P, 4, none⟩ = some (.slice (some ⟨w.heap.size, 0, none⟩) 1 1) ∧ w2.cell? ⟨P, 5, none⟩ = some (.slice (some ⟨w1.heap.size, 0, none⟩) 1 1) ∧ w2.cell? ⟨w4.heap.size, 2, none⟩ = some (.int .i64 3) ∧ w2.cell? ⟨w7.heap.size, 1, none⟩ = some (.int .i64 4) ∧ Hid (Below W7.heap.size W7 w2)) := by
    intro w' hb
    refine (num_c 3 _).mono ?_
    rintro e w2 ⟨rfl, b2⟩
    exact ⟨by first | rfl | simp [ms_v, same_v, same_n], SS w2 (nx hb.out b2)⟩
  obtain ⟨s0, s1, s2, s3, s4, s5, s6, s7, HB0⟩ := SS W7 (Below.refl _ _)
  have HB1 : Hid (Below W7.heap.size W7 W7.drew) := (Below.refl W7.heap.size W7).drew
  clear SS hA hK HVI HVB B12
  go_wp2_with fail
  go_region_held3 (fun w' => w'.cell? ⟨P, 0, none⟩ = some (.int .i64 6) ∧ w'.cell? ⟨P, 1, none⟩ = some (.bool false) ∧ w'.cell? ⟨P, 2, none⟩ = some (.int .i64 0) ∧ w'.cell? ⟨P, 3, none⟩ = some (.string ⟨#[]⟩) ∧ w'.cell? ⟨P, 4, none⟩ = some (.slice (some ⟨w.heap.size, 0, none⟩) 1 1) ∧ w'.cell? ⟨P, 5, none⟩ = some (.slice (some ⟨w1.heap.size, 0, none⟩) 1 1) ∧ w'.cell? ⟨w4.heap.size, 2, none⟩ = some (.int .i64 3) ∧ w'.cell? ⟨w7.heap.size, 1, none⟩ = some (.int .i64 4) ∧ Hid (Below W7.heap.size W7 w')) (go_keep) (first
    | (go_at_call 20; have z := H41; clear z; refine (c20n _ (by assumption)).mono ?_; rintro e w25 ⟨rfl, p0, p1, p2, p3, p4, p5, p6, p7, HB5⟩)
    | (go_at_call 41; refine (c41 _ (by assumption)).mono ?_; rintro e w24 ⟨rfl, o0, o1, o2, o3, o4, o5, o6, o7, H41⟩)
    | (go_at_call 20; refine (c20 _ (by assumption)).mono ?_; rintro e w23 ⟨rfl, n0, n1, n2, n3, n4, n5, n6, n7, HB4⟩)
    | (go_at_call 13; refine (c13 _ (by assumption)).mono ?_; rintro e w22 ⟨rfl, m0, m1, m2, m3, m4, m5, m6, m7, HB3⟩)
    | (go_at_call 12; refine (c12 _ (by assumption)).mono ?_; rintro e w21 ⟨rfl, l0, l1, l2, l3, l4, l5, l6, l7, HB2⟩)
    | (go_at_call 14; refine (errno_c _ _).mono ?_; rintro e w20 ⟨rfl, rfl⟩)
    | fail)
  all_goals go_wp2_with fail
  all_goals go_ret
  all_goals exact ⟨rfl, nx BW HB5.out⟩
end Go.Proofs.YtmoblfdepcjgfaaDoor.Awake

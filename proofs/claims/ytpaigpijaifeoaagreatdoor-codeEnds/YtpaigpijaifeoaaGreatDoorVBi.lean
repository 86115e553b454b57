/- Expressions reckoned: bits of two integers; not. -/
import Derived.Test.YtpaigpijaifeoaaGreatDoorVEx
namespace Go.Proofs.YtpaigpijaifeoaaGreatDoor.VBi
open Go.RowKit Go.Proofs.YtpaigpijaifeoaaGreatDoor.Base Go.Proofs.YtpaigpijaifeoaaGreatDoor.EPure Go.Proofs.YtpaigpijaifeoaaGreatDoor.VPure Go.Proofs.YtpaigpijaifeoaaGreatDoor.VSm Go.Proofs.YtpaigpijaifeoaaGreatDoor.VIn Go.Proofs.YtpaigpijaifeoaaGreatDoor.VEx
set_option linter.unusedVariables false

theorem bit_rng (o x y : Int) : -9223372036854775808 ≤ bit o x y ∧ bit o x y ≤ 9223372036854775807 := by
  unfold bit
  repeat' split
  all_goals (unfold Go.bits; simp only []; rw [IntKind.wrap_i64]; omega)
set_option maxRecDepth 20000 in
set_option maxHeartbeats 3200000 in
theorem bits_20 (k1 : Int) (b1 : Bool) (i1 : Int) (s1 : ByteArray) (n1 l1 : Value) (k2 : Int) (b2 : Bool) (i2 : Int) (s2 : ByteArray) (n2 l2 : Value) (w : World) :
    Calls Tryz.prog 143 #[.int .i64 20, vl k1 b1 i1 s1 n1 l1, vl k2 b2 i2 s2 n2 l2] w fun e w' => An w w' e (fun c : Int => v0 3 false c ⟨#[]⟩) (twX k1 k2 (bit 20 i1 i2)) := by
  obtain ⟨W0, hW0, hs0, hb0, hp, hq, hr⟩ := two3 w #[.int .i64 k1, .bool b1, .int .i64 i1, .string s1, n1, l1] #[.int .i64 k2, .bool b2, .int .i64 i2, .string s2, n2, l2]
  have HR : Hid (W0.heap[w.heap.size + 2]? = some (.cells #[.int .i64 0, .bool false, .int .i64 0, .string ⟨#[]⟩, .slice none 0 0, .slice none 0 0] 26 (0, 0))) := hr
  have HB : Hid (Below w.heap.size w W0) := hb0
  obtain ⟨p0, p1, p2, p3, p4, p5⟩ := six_box hp
  obtain ⟨q0, q1, q2, q3, q4, q5⟩ := six_box hq
  have cI := integers_c k1 b1 i1 s1 n1 l1 k2 b2 i2 s2 n2 l2 W0
  have eX : Go.bits .and .i64 i1 i2 = bit 20 i1 i2 := rfl
  obtain ⟨X, hX⟩ : ∃ X, bit 20 i1 i2 = X := ⟨_, rfl⟩
  rw [hX] at eX ⊢
  have cN := number_c X
  obtain ⟨U, hU⟩ : ∃ U, twX k1 k2 X = U := ⟨_, rfl⟩
  rw [hU]
  unfold twX at hU
  clear hp hq hb0 hr hX
  go_enter Tryz.func143, Tryz.ntmps143
  go_wp2_with fail
  try rw [hW0]
  refine cI.mono ?_
  intro e W1 hA
  clear cI
  by_cases h1 : k1 = 3
  · rw [if_pos h1] at hA hU
    by_cases h2 : k2 = 3
    · rw [if_pos h2] at hA hU
      obtain ⟨rfl, hb1⟩ := hA
      have HR1 : Hid (W1.heap[w.heap.size + 2]? = some (.cells #[.int .i64 0, .bool false, .int .i64 0, .string ⟨#[]⟩, .slice none 0 0, .slice none 0 0] 26 (0, 0))) := (hb1.block (w.heap.size + 2) (by omega)).trans HR.out
      have hs1 := hb1.size
      have HB1 : Hid (Below w.heap.size w W1) := HB.out.trans (hb1.mono HB.out.size)
      clear hb1 HR HB p0 p1 p2 p3 p4 p5 q0 q1 q2 q3 q4 q5 h1 h2
      have HU : Hid _ := hU
      clear hU
      go_wp2_with fail
      refine (cN _).mono ?_
      rintro e W2 ⟨rfl, hb2⟩
      clear cN eX
      have hr := (hb2.block (w.heap.size + 2) (by omega)).trans HR1.out
      have HB2 : Hid (Below w.heap.size w W2) := HB1.out.trans (hb2.mono HB1.out.size)
      clear hb2 HB1 HR1
      obtain ⟨r0, r1, r2, r3, r4, r5⟩ := six_box hr
      have rf0 := frozen_box hr 0
      have rf1 := frozen_box hr 1
      have rf2 := frozen_box hr 2
      have rf3 := frozen_box hr 3
      have rf4 := frozen_box hr 4
      have rf5 := frozen_box hr 5
      go_wp2_with fail
      obtain ⟨W9, hW9⟩ : ∃ W9, ((((((W2.setCell ⟨w.heap.size + 2, 0, none⟩ (.int .i64 3)).setCell ⟨w.heap.size + 2, 1, none⟩ (.bool false)).setCell ⟨w.heap.size + 2, 2, none⟩ (.int .i64 X)).setCell ⟨w.heap.size + 2, 3, none⟩ (.string ⟨#[]⟩)).setCell ⟨w.heap.size + 2, 4, none⟩ (.slice none 0 0)).setCell ⟨w.heap.size + 2, 5, none⟩ (.slice none 0 0)) = W9 := ⟨_, rfl⟩
      rw [hW9]
      obtain ⟨q1, q2, q3, q4⟩ := set6 _ _ _ _ _ _ hr hW9
      first | refine out_ret (results_cell_row rfl _ W9 (w.heap.size + 2) 26 _ (0, 0) _ rfl q1 Tryz.underlying26 rfl (by kernel_rfl)) rfl ?_ | refine bodyPost_ret (results_cell_row rfl _ W9 (w.heap.size + 2) 26 _ (0, 0) _ rfl q1 Tryz.underlying26 rfl (by kernel_rfl)) rfl ?_
      rw [← HU.out]
      exact ⟨rfl, q4 _ _ (by omega) HB2.out⟩
    · rw [if_neg h2] at hA hU
      obtain ⟨rfl, hb1⟩ := hA
      subst hU
      exact ⟨rfl, rfl, HB.out.trans (hb1.mono HB.out.size)⟩
  · rw [if_neg h1] at hA hU
    obtain ⟨rfl, hb1⟩ := hA
    subst hU
    exact ⟨rfl, rfl, HB.out.trans (hb1.mono HB.out.size)⟩
set_option maxRecDepth 20000 in
set_option maxHeartbeats 3200000 in
theorem bits_21 (k1 : Int) (b1 : Bool) (i1 : Int) (s1 : ByteArray) (n1 l1 : Value) (k2 : Int) (b2 : Bool) (i2 : Int) (s2 : ByteArray) (n2 l2 : Value) (w : World) :
    Calls Tryz.prog 143 #[.int .i64 21, vl k1 b1 i1 s1 n1 l1, vl k2 b2 i2 s2 n2 l2] w fun e w' => An w w' e (fun c : Int => v0 3 false c ⟨#[]⟩) (twX k1 k2 (bit 21 i1 i2)) := by
  obtain ⟨W0, hW0, hs0, hb0, hp, hq, hr⟩ := two3 w #[.int .i64 k1, .bool b1, .int .i64 i1, .string s1, n1, l1] #[.int .i64 k2, .bool b2, .int .i64 i2, .string s2, n2, l2]
  have HR : Hid (W0.heap[w.heap.size + 2]? = some (.cells #[.int .i64 0, .bool false, .int .i64 0, .string ⟨#[]⟩, .slice none 0 0, .slice none 0 0] 26 (0, 0))) := hr
  have HB : Hid (Below w.heap.size w W0) := hb0
  obtain ⟨p0, p1, p2, p3, p4, p5⟩ := six_box hp
  obtain ⟨q0, q1, q2, q3, q4, q5⟩ := six_box hq
  have cI := integers_c k1 b1 i1 s1 n1 l1 k2 b2 i2 s2 n2 l2 W0
  have eX : Go.bits .xor .i64 i1 i2 = bit 21 i1 i2 := rfl
  obtain ⟨X, hX⟩ : ∃ X, bit 21 i1 i2 = X := ⟨_, rfl⟩
  rw [hX] at eX ⊢
  have cN := number_c X
  obtain ⟨U, hU⟩ : ∃ U, twX k1 k2 X = U := ⟨_, rfl⟩
  rw [hU]
  unfold twX at hU
  clear hp hq hb0 hr hX
  go_enter Tryz.func143, Tryz.ntmps143
  go_wp2_with fail
  try rw [hW0]
  refine cI.mono ?_
  intro e W1 hA
  clear cI
  by_cases h1 : k1 = 3
  · rw [if_pos h1] at hA hU
    by_cases h2 : k2 = 3
    · rw [if_pos h2] at hA hU
      obtain ⟨rfl, hb1⟩ := hA
      have HR1 : Hid (W1.heap[w.heap.size + 2]? = some (.cells #[.int .i64 0, .bool false, .int .i64 0, .string ⟨#[]⟩, .slice none 0 0, .slice none 0 0] 26 (0, 0))) := (hb1.block (w.heap.size + 2) (by omega)).trans HR.out
      have hs1 := hb1.size
      have HB1 : Hid (Below w.heap.size w W1) := HB.out.trans (hb1.mono HB.out.size)
      clear hb1 HR HB p0 p1 p2 p3 p4 p5 q0 q1 q2 q3 q4 q5 h1 h2
      have HU : Hid _ := hU
      clear hU
      go_wp2_with fail
      refine (cN _).mono ?_
      rintro e W2 ⟨rfl, hb2⟩
      clear cN eX
      have hr := (hb2.block (w.heap.size + 2) (by omega)).trans HR1.out
      have HB2 : Hid (Below w.heap.size w W2) := HB1.out.trans (hb2.mono HB1.out.size)
      clear hb2 HB1 HR1
      obtain ⟨r0, r1, r2, r3, r4, r5⟩ := six_box hr
      have rf0 := frozen_box hr 0
      have rf1 := frozen_box hr 1
      have rf2 := frozen_box hr 2
      have rf3 := frozen_box hr 3
      have rf4 := frozen_box hr 4
      have rf5 := frozen_box hr 5
      go_wp2_with fail
      obtain ⟨W9, hW9⟩ : ∃ W9, ((((((W2.setCell ⟨w.heap.size + 2, 0, none⟩ (.int .i64 3)).setCell ⟨w.heap.size + 2, 1, none⟩ (.bool false)).setCell ⟨w.heap.size + 2, 2, none⟩ (.int .i64 X)).setCell ⟨w.heap.size + 2, 3, none⟩ (.string ⟨#[]⟩)).setCell ⟨w.heap.size + 2, 4, none⟩ (.slice none 0 0)).setCell ⟨w.heap.size + 2, 5, none⟩ (.slice none 0 0)) = W9 := ⟨_, rfl⟩
      rw [hW9]
      obtain ⟨q1, q2, q3, q4⟩ := set6 _ _ _ _ _ _ hr hW9
      first | refine out_ret (results_cell_row rfl _ W9 (w.heap.size + 2) 26 _ (0, 0) _ rfl q1 Tryz.underlying26 rfl (by kernel_rfl)) rfl ?_ | refine bodyPost_ret (results_cell_row rfl _ W9 (w.heap.size + 2) 26 _ (0, 0) _ rfl q1 Tryz.underlying26 rfl (by kernel_rfl)) rfl ?_
      rw [← HU.out]
      exact ⟨rfl, q4 _ _ (by omega) HB2.out⟩
    · rw [if_neg h2] at hA hU
      obtain ⟨rfl, hb1⟩ := hA
      subst hU
      exact ⟨rfl, rfl, HB.out.trans (hb1.mono HB.out.size)⟩
  · rw [if_neg h1] at hA hU
    obtain ⟨rfl, hb1⟩ := hA
    subst hU
    exact ⟨rfl, rfl, HB.out.trans (hb1.mono HB.out.size)⟩
set_option maxRecDepth 20000 in
set_option maxHeartbeats 3200000 in
theorem bits_22 (k1 : Int) (b1 : Bool) (i1 : Int) (s1 : ByteArray) (n1 l1 : Value) (k2 : Int) (b2 : Bool) (i2 : Int) (s2 : ByteArray) (n2 l2 : Value) (w : World) :
    Calls Tryz.prog 143 #[.int .i64 22, vl k1 b1 i1 s1 n1 l1, vl k2 b2 i2 s2 n2 l2] w fun e w' => An w w' e (fun c : Int => v0 3 false c ⟨#[]⟩) (twX k1 k2 (bit 22 i1 i2)) := by
  obtain ⟨W0, hW0, hs0, hb0, hp, hq, hr⟩ := two3 w #[.int .i64 k1, .bool b1, .int .i64 i1, .string s1, n1, l1] #[.int .i64 k2, .bool b2, .int .i64 i2, .string s2, n2, l2]
  have HR : Hid (W0.heap[w.heap.size + 2]? = some (.cells #[.int .i64 0, .bool false, .int .i64 0, .string ⟨#[]⟩, .slice none 0 0, .slice none 0 0] 26 (0, 0))) := hr
  have HB : Hid (Below w.heap.size w W0) := hb0
  obtain ⟨p0, p1, p2, p3, p4, p5⟩ := six_box hp
  obtain ⟨q0, q1, q2, q3, q4, q5⟩ := six_box hq
  have cI := integers_c k1 b1 i1 s1 n1 l1 k2 b2 i2 s2 n2 l2 W0
  have eX : Go.bits .or .i64 i1 i2 = bit 22 i1 i2 := rfl
  obtain ⟨X, hX⟩ : ∃ X, bit 22 i1 i2 = X := ⟨_, rfl⟩
  rw [hX] at eX ⊢
  have cN := number_c X
  obtain ⟨U, hU⟩ : ∃ U, twX k1 k2 X = U := ⟨_, rfl⟩
  rw [hU]
  unfold twX at hU
  clear hp hq hb0 hr hX
  go_enter Tryz.func143, Tryz.ntmps143
  go_wp2_with fail
  try rw [hW0]
  refine cI.mono ?_
  intro e W1 hA
  clear cI
  by_cases h1 : k1 = 3
  · rw [if_pos h1] at hA hU
    by_cases h2 : k2 = 3
    · rw [if_pos h2] at hA hU
      obtain ⟨rfl, hb1⟩ := hA
      have HR1 : Hid (W1.heap[w.heap.size + 2]? = some (.cells #[.int .i64 0, .bool false, .int .i64 0, .string ⟨#[]⟩, .slice none 0 0, .slice none 0 0] 26 (0, 0))) := (hb1.block (w.heap.size + 2) (by omega)).trans HR.out
      have hs1 := hb1.size
      have HB1 : Hid (Below w.heap.size w W1) := HB.out.trans (hb1.mono HB.out.size)
      clear hb1 HR HB p0 p1 p2 p3 p4 p5 q0 q1 q2 q3 q4 q5 h1 h2
      have HU : Hid _ := hU
      clear hU
      go_wp2_with fail
      refine (cN _).mono ?_
      rintro e W2 ⟨rfl, hb2⟩
      clear cN eX
      have hr := (hb2.block (w.heap.size + 2) (by omega)).trans HR1.out
      have HB2 : Hid (Below w.heap.size w W2) := HB1.out.trans (hb2.mono HB1.out.size)
      clear hb2 HB1 HR1
      obtain ⟨r0, r1, r2, r3, r4, r5⟩ := six_box hr
      have rf0 := frozen_box hr 0
      have rf1 := frozen_box hr 1
      have rf2 := frozen_box hr 2
      have rf3 := frozen_box hr 3
      have rf4 := frozen_box hr 4
      have rf5 := frozen_box hr 5
      go_wp2_with fail
      obtain ⟨W9, hW9⟩ : ∃ W9, ((((((W2.setCell ⟨w.heap.size + 2, 0, none⟩ (.int .i64 3)).setCell ⟨w.heap.size + 2, 1, none⟩ (.bool false)).setCell ⟨w.heap.size + 2, 2, none⟩ (.int .i64 X)).setCell ⟨w.heap.size + 2, 3, none⟩ (.string ⟨#[]⟩)).setCell ⟨w.heap.size + 2, 4, none⟩ (.slice none 0 0)).setCell ⟨w.heap.size + 2, 5, none⟩ (.slice none 0 0)) = W9 := ⟨_, rfl⟩
      rw [hW9]
      obtain ⟨q1, q2, q3, q4⟩ := set6 _ _ _ _ _ _ hr hW9
      first | refine out_ret (results_cell_row rfl _ W9 (w.heap.size + 2) 26 _ (0, 0) _ rfl q1 Tryz.underlying26 rfl (by kernel_rfl)) rfl ?_ | refine bodyPost_ret (results_cell_row rfl _ W9 (w.heap.size + 2) 26 _ (0, 0) _ rfl q1 Tryz.underlying26 rfl (by kernel_rfl)) rfl ?_
      rw [← HU.out]
      exact ⟨rfl, q4 _ _ (by omega) HB2.out⟩
    · rw [if_neg h2] at hA hU
      obtain ⟨rfl, hb1⟩ := hA
      subst hU
      exact ⟨rfl, rfl, HB.out.trans (hb1.mono HB.out.size)⟩
  · rw [if_neg h1] at hA hU
    obtain ⟨rfl, hb1⟩ := hA
    subst hU
    exact ⟨rfl, rfl, HB.out.trans (hb1.mono HB.out.size)⟩
set_option maxRecDepth 20000 in
set_option maxHeartbeats 3200000 in
theorem pair_20 (k1 : Int) (b1 : Bool) (i1 : Int) (s1 : ByteArray) (n1 l1 : Value) (k2 : Int) (b2 : Bool) (i2 : Int) (s2 : ByteArray) (n2 l2 : Value) (w : World) :
    Calls Tryz.prog 109 #[.int .i64 20, vl k1 b1 i1 s1 n1 l1, vl k2 b2 i2 s2 n2 l2] w fun e w' => An w w' e (fun c : Int => v0 3 false c ⟨#[]⟩) (twX k1 k2 (bit 20 i1 i2)) := by
  obtain ⟨W0, hW0, hs0, hb0, hp, hq, hr⟩ := two3 w #[.int .i64 k1, .bool b1, .int .i64 i1, .string s1, n1, l1] #[.int .i64 k2, .bool b2, .int .i64 i2, .string s2, n2, l2]
  have HR : Hid (W0.heap[w.heap.size + 2]? = some (.cells #[.int .i64 0, .bool false, .int .i64 0, .string ⟨#[]⟩, .slice none 0 0, .slice none 0 0] 26 (0, 0))) := hr
  have HB : Hid (Below w.heap.size w W0) := hb0
  obtain ⟨p0, p1, p2, p3, p4, p5⟩ := six_box hp
  obtain ⟨q0, q1, q2, q3, q4, q5⟩ := six_box hq
  have cI := bits_20 k1 b1 i1 s1 n1 l1 k2 b2 i2 s2 n2 l2 W0
  obtain ⟨U, hU⟩ : ∃ U, twX k1 k2 (bit 20 i1 i2) = U := ⟨_, rfl⟩
  rw [hU] at cI ⊢
  clear hp hq hb0 hr hU
  go_enter Tryz.func109, Tryz.ntmps109
  go_upto_if 31 with fail
  refine wp_cond_true (by rfl) ?_
  refine wp_skip ?_
  refine ex_norm ?_
  apply_assumption
  go_upto_if 31 with fail
  refine wp_cond_true (by rfl) ?_
  refine wp_exit ?_
  repeat (first | (with_reducible refine ex_then ?_) | (with_reducible refine ex_skip (by decide) ?_))
  refine ex_hit ?_
  refine ex_norm ?_
  apply_assumption
  refine wp_mono (Q := Out ?outB) ?outM (out_mono ?outR ?outP)
  case outR => intro a w h; (repeat (first | (with_reducible refine rt_then ?_) | (with_reducible refine rt_blk ?_))); exact h
  case outP => intro c a w h; (repeat (first | (with_reducible refine pn_then ?_) | (with_reducible refine pn_blk ?_))); exact h
  try simp only [hW0]
  go_wp2_with fail
  try rw [hW0]
  refine cI.mono ?_
  intro e W2 hA
  clear cI
  cases U with
  | error c =>
    obtain ⟨rfl, hb1⟩ := hA
    exact ⟨rfl, rfl, HB.out.trans (hb1.mono HB.out.size)⟩
  | ok y =>
    obtain ⟨rfl, hb2⟩ := hA
    have HR1 := HR
    have HB1 := HB
    clear HR HB
    have hr := (hb2.block (w.heap.size + 2) (by omega)).trans HR1.out
    have HB2 : Hid (Below w.heap.size w W2) := HB1.out.trans (hb2.mono HB1.out.size)
    clear hb2 HB1 HR1
    obtain ⟨r0, r1, r2, r3, r4, r5⟩ := six_box hr
    have rf0 := frozen_box hr 0
    have rf1 := frozen_box hr 1
    have rf2 := frozen_box hr 2
    have rf3 := frozen_box hr 3
    have rf4 := frozen_box hr 4
    have rf5 := frozen_box hr 5
    go_wp2_with fail
    obtain ⟨W9, hW9⟩ : ∃ W9, ((((((W2.setCell ⟨w.heap.size + 2, 0, none⟩ (.int .i64 3)).setCell ⟨w.heap.size + 2, 1, none⟩ (.bool false)).setCell ⟨w.heap.size + 2, 2, none⟩ (.int .i64 y)).setCell ⟨w.heap.size + 2, 3, none⟩ (.string ⟨#[]⟩)).setCell ⟨w.heap.size + 2, 4, none⟩ (.slice none 0 0)).setCell ⟨w.heap.size + 2, 5, none⟩ (.slice none 0 0)) = W9 := ⟨_, rfl⟩
    rw [hW9]
    obtain ⟨q1, q2, q3, q4⟩ := set6 _ _ _ _ _ _ hr hW9
    first | refine out_ret (results_cell_row rfl _ W9 (w.heap.size + 2) 26 _ (0, 0) _ rfl q1 Tryz.underlying26 rfl (by kernel_rfl)) rfl ?_ | refine bodyPost_ret (results_cell_row rfl _ W9 (w.heap.size + 2) 26 _ (0, 0) _ rfl q1 Tryz.underlying26 rfl (by kernel_rfl)) rfl ?_
    exact ⟨rfl, q4 _ _ (by omega) HB2.out⟩
set_option maxRecDepth 20000 in
set_option maxHeartbeats 3200000 in
theorem pair_21 (k1 : Int) (b1 : Bool) (i1 : Int) (s1 : ByteArray) (n1 l1 : Value) (k2 : Int) (b2 : Bool) (i2 : Int) (s2 : ByteArray) (n2 l2 : Value) (w : World) :
    Calls Tryz.prog 109 #[.int .i64 21, vl k1 b1 i1 s1 n1 l1, vl k2 b2 i2 s2 n2 l2] w fun e w' => An w w' e (fun c : Int => v0 3 false c ⟨#[]⟩) (twX k1 k2 (bit 21 i1 i2)) := by
  obtain ⟨W0, hW0, hs0, hb0, hp, hq, hr⟩ := two3 w #[.int .i64 k1, .bool b1, .int .i64 i1, .string s1, n1, l1] #[.int .i64 k2, .bool b2, .int .i64 i2, .string s2, n2, l2]
  have HR : Hid (W0.heap[w.heap.size + 2]? = some (.cells #[.int .i64 0, .bool false, .int .i64 0, .string ⟨#[]⟩, .slice none 0 0, .slice none 0 0] 26 (0, 0))) := hr
  have HB : Hid (Below w.heap.size w W0) := hb0
  obtain ⟨p0, p1, p2, p3, p4, p5⟩ := six_box hp
  obtain ⟨q0, q1, q2, q3, q4, q5⟩ := six_box hq
  have cI := bits_21 k1 b1 i1 s1 n1 l1 k2 b2 i2 s2 n2 l2 W0
  obtain ⟨U, hU⟩ : ∃ U, twX k1 k2 (bit 21 i1 i2) = U := ⟨_, rfl⟩
  rw [hU] at cI ⊢
  clear hp hq hb0 hr hU
  go_enter Tryz.func109, Tryz.ntmps109
  go_upto_if 31 with fail
  refine wp_cond_false (by rfl) ?_
  go_upto_if 31 with fail
  refine wp_cond_true (by rfl) ?_
  refine wp_skip ?_
  refine ex_norm ?_
  apply_assumption
  go_upto_if 31 with fail
  refine wp_cond_true (by rfl) ?_
  refine wp_exit ?_
  repeat (first | (with_reducible refine ex_then ?_) | (with_reducible refine ex_skip (by decide) ?_))
  refine ex_hit ?_
  refine ex_norm ?_
  apply_assumption
  refine wp_mono (Q := Out ?outB) ?outM (out_mono ?outR ?outP)
  case outR => intro a w h; (repeat (first | (with_reducible refine rt_then ?_) | (with_reducible refine rt_blk ?_))); exact h
  case outP => intro c a w h; (repeat (first | (with_reducible refine pn_then ?_) | (with_reducible refine pn_blk ?_))); exact h
  try simp only [hW0]
  go_wp2_with fail
  try rw [hW0]
  refine cI.mono ?_
  intro e W2 hA
  clear cI
  cases U with
  | error c =>
    obtain ⟨rfl, hb1⟩ := hA
    exact ⟨rfl, rfl, HB.out.trans (hb1.mono HB.out.size)⟩
  | ok y =>
    obtain ⟨rfl, hb2⟩ := hA
    have HR1 := HR
    have HB1 := HB
    clear HR HB
    have hr := (hb2.block (w.heap.size + 2) (by omega)).trans HR1.out
    have HB2 : Hid (Below w.heap.size w W2) := HB1.out.trans (hb2.mono HB1.out.size)
    clear hb2 HB1 HR1
    obtain ⟨r0, r1, r2, r3, r4, r5⟩ := six_box hr
    have rf0 := frozen_box hr 0
    have rf1 := frozen_box hr 1
    have rf2 := frozen_box hr 2
    have rf3 := frozen_box hr 3
    have rf4 := frozen_box hr 4
    have rf5 := frozen_box hr 5
    go_wp2_with fail
    obtain ⟨W9, hW9⟩ : ∃ W9, ((((((W2.setCell ⟨w.heap.size + 2, 0, none⟩ (.int .i64 3)).setCell ⟨w.heap.size + 2, 1, none⟩ (.bool false)).setCell ⟨w.heap.size + 2, 2, none⟩ (.int .i64 y)).setCell ⟨w.heap.size + 2, 3, none⟩ (.string ⟨#[]⟩)).setCell ⟨w.heap.size + 2, 4, none⟩ (.slice none 0 0)).setCell ⟨w.heap.size + 2, 5, none⟩ (.slice none 0 0)) = W9 := ⟨_, rfl⟩
    rw [hW9]
    obtain ⟨q1, q2, q3, q4⟩ := set6 _ _ _ _ _ _ hr hW9
    first | refine out_ret (results_cell_row rfl _ W9 (w.heap.size + 2) 26 _ (0, 0) _ rfl q1 Tryz.underlying26 rfl (by kernel_rfl)) rfl ?_ | refine bodyPost_ret (results_cell_row rfl _ W9 (w.heap.size + 2) 26 _ (0, 0) _ rfl q1 Tryz.underlying26 rfl (by kernel_rfl)) rfl ?_
    exact ⟨rfl, q4 _ _ (by omega) HB2.out⟩
set_option maxRecDepth 20000 in
set_option maxHeartbeats 3200000 in
theorem pair_22 (k1 : Int) (b1 : Bool) (i1 : Int) (s1 : ByteArray) (n1 l1 : Value) (k2 : Int) (b2 : Bool) (i2 : Int) (s2 : ByteArray) (n2 l2 : Value) (w : World) :
    Calls Tryz.prog 109 #[.int .i64 22, vl k1 b1 i1 s1 n1 l1, vl k2 b2 i2 s2 n2 l2] w fun e w' => An w w' e (fun c : Int => v0 3 false c ⟨#[]⟩) (twX k1 k2 (bit 22 i1 i2)) := by
  obtain ⟨W0, hW0, hs0, hb0, hp, hq, hr⟩ := two3 w #[.int .i64 k1, .bool b1, .int .i64 i1, .string s1, n1, l1] #[.int .i64 k2, .bool b2, .int .i64 i2, .string s2, n2, l2]
  have HR : Hid (W0.heap[w.heap.size + 2]? = some (.cells #[.int .i64 0, .bool false, .int .i64 0, .string ⟨#[]⟩, .slice none 0 0, .slice none 0 0] 26 (0, 0))) := hr
  have HB : Hid (Below w.heap.size w W0) := hb0
  obtain ⟨p0, p1, p2, p3, p4, p5⟩ := six_box hp
  obtain ⟨q0, q1, q2, q3, q4, q5⟩ := six_box hq
  have cI := bits_22 k1 b1 i1 s1 n1 l1 k2 b2 i2 s2 n2 l2 W0
  obtain ⟨U, hU⟩ : ∃ U, twX k1 k2 (bit 22 i1 i2) = U := ⟨_, rfl⟩
  rw [hU] at cI ⊢
  clear hp hq hb0 hr hU
  go_enter Tryz.func109, Tryz.ntmps109
  go_upto_if 31 with fail
  refine wp_cond_false (by rfl) ?_
  go_upto_if 31 with fail
  refine wp_cond_false (by rfl) ?_
  go_upto_if 31 with fail
  refine wp_cond_true (by rfl) ?_
  refine wp_exit ?_
  repeat (first | (with_reducible refine ex_then ?_) | (with_reducible refine ex_skip (by decide) ?_))
  refine ex_hit ?_
  refine ex_norm ?_
  apply_assumption
  refine wp_mono (Q := Out ?outB) ?outM (out_mono ?outR ?outP)
  case outR => intro a w h; (repeat (first | (with_reducible refine rt_then ?_) | (with_reducible refine rt_blk ?_))); exact h
  case outP => intro c a w h; (repeat (first | (with_reducible refine pn_then ?_) | (with_reducible refine pn_blk ?_))); exact h
  try simp only [hW0]
  go_wp2_with fail
  try rw [hW0]
  refine cI.mono ?_
  intro e W2 hA
  clear cI
  cases U with
  | error c =>
    obtain ⟨rfl, hb1⟩ := hA
    exact ⟨rfl, rfl, HB.out.trans (hb1.mono HB.out.size)⟩
  | ok y =>
    obtain ⟨rfl, hb2⟩ := hA
    have HR1 := HR
    have HB1 := HB
    clear HR HB
    have hr := (hb2.block (w.heap.size + 2) (by omega)).trans HR1.out
    have HB2 : Hid (Below w.heap.size w W2) := HB1.out.trans (hb2.mono HB1.out.size)
    clear hb2 HB1 HR1
    obtain ⟨r0, r1, r2, r3, r4, r5⟩ := six_box hr
    have rf0 := frozen_box hr 0
    have rf1 := frozen_box hr 1
    have rf2 := frozen_box hr 2
    have rf3 := frozen_box hr 3
    have rf4 := frozen_box hr 4
    have rf5 := frozen_box hr 5
    go_wp2_with fail
    obtain ⟨W9, hW9⟩ : ∃ W9, ((((((W2.setCell ⟨w.heap.size + 2, 0, none⟩ (.int .i64 3)).setCell ⟨w.heap.size + 2, 1, none⟩ (.bool false)).setCell ⟨w.heap.size + 2, 2, none⟩ (.int .i64 y)).setCell ⟨w.heap.size + 2, 3, none⟩ (.string ⟨#[]⟩)).setCell ⟨w.heap.size + 2, 4, none⟩ (.slice none 0 0)).setCell ⟨w.heap.size + 2, 5, none⟩ (.slice none 0 0)) = W9 := ⟨_, rfl⟩
    rw [hW9]
    obtain ⟨q1, q2, q3, q4⟩ := set6 _ _ _ _ _ _ hr hW9
    first | refine out_ret (results_cell_row rfl _ W9 (w.heap.size + 2) 26 _ (0, 0) _ rfl q1 Tryz.underlying26 rfl (by kernel_rfl)) rfl ?_ | refine bodyPost_ret (results_cell_row rfl _ W9 (w.heap.size + 2) 26 _ (0, 0) _ rfl q1 Tryz.underlying26 rfl (by kernel_rfl)) rfl ?_
    exact ⟨rfl, q4 _ _ (by omega) HB2.out⟩
set_option maxRecDepth 20000 in
set_option maxHeartbeats 3200000 in
theorem pair_11 (k1 : Int) (b1 : Bool) (i1 : Int) (s1 : ByteArray) (n1 l1 : Value) (k2 : Int) (b2 : Bool) (i2 : Int) (s2 : ByteArray) (n2 l2 : Value) (w : World) :
    Calls Tryz.prog 109 #[.int .i64 11, vl k1 b1 i1 s1 n1 l1, vl k2 b2 i2 s2 n2 l2] w fun e w' => An w w' e (fun c : Bool => v0 2 c 0 ⟨#[]⟩) (if k1 = 2 then .ok (!b1) else .error 1101) := by
  obtain ⟨W0, hW0, hs0, hb0, hp, hq, hr⟩ := two3 w #[.int .i64 k1, .bool b1, .int .i64 i1, .string s1, n1, l1] #[.int .i64 k2, .bool b2, .int .i64 i2, .string s2, n2, l2]
  have HR : Hid (W0.heap[w.heap.size + 2]? = some (.cells #[.int .i64 0, .bool false, .int .i64 0, .string ⟨#[]⟩, .slice none 0 0, .slice none 0 0] 26 (0, 0))) := hr
  have HB : Hid (Below w.heap.size w W0) := hb0
  obtain ⟨p0, p1, p2, p3, p4, p5⟩ := six_box hp
  obtain ⟨q0, q1, q2, q3, q4, q5⟩ := six_box hq
  have cI := isTrue_c k1 b1 i1 s1 n1 l1 W0
  have cT := truth_c (!b1)
  obtain ⟨B, hB⟩ : ∃ B, (!b1) = B := ⟨_, rfl⟩
  rw [hB] at cT ⊢
  obtain ⟨U, hU⟩ : ∃ U, (if k1 = 2 then (.ok B : Except Nat Bool) else .error 1101) = U := ⟨_, rfl⟩
  rw [hU]
  clear hp hq hb0 hr
  go_enter Tryz.func109, Tryz.ntmps109
  go_upto_if 13 with fail
  refine wp_cond_true (by rfl) ?_
  refine wp_exit ?_
  repeat (first | (with_reducible refine ex_then ?_) | (with_reducible refine ex_skip (by decide) ?_))
  refine ex_hit ?_
  refine ex_norm ?_
  apply_assumption
  refine wp_mono (Q := Out ?outB) ?outM (out_mono ?outR ?outP)
  case outR => intro a w h; (repeat (first | (with_reducible refine rt_then ?_) | (with_reducible refine rt_blk ?_))); exact h
  case outP => intro c a w h; (repeat (first | (with_reducible refine pn_then ?_) | (with_reducible refine pn_blk ?_))); exact h
  try simp only [hW0]
  go_wp2_with fail
  try rw [hW0]
  refine cI.mono ?_
  intro e W1 hA
  clear cI
  by_cases h1 : k1 = 2
  · rw [if_pos h1] at hA hU
    obtain ⟨rfl, hb1⟩ := hA
    have HR1 : Hid (W1.heap[w.heap.size + 2]? = some (.cells #[.int .i64 0, .bool false, .int .i64 0, .string ⟨#[]⟩, .slice none 0 0, .slice none 0 0] 26 (0, 0))) := (hb1.block (w.heap.size + 2) (by omega)).trans HR.out
    have hs1 := hb1.size
    have HB1 : Hid (Below w.heap.size w W1) := HB.out.trans (hb1.mono HB.out.size)
    clear hb1 HR HB p0 p1 p2 p3 p4 p5 q0 q1 q2 q3 q4 q5 h1
    have HU : Hid _ := hU
    clear hU
    go_wp2_with fail
    refine (cT _).mono ?_
    rintro e W2 ⟨rfl, hb2⟩
    clear cT
    have hr := (hb2.block (w.heap.size + 2) (by omega)).trans HR1.out
    have HB2 : Hid (Below w.heap.size w W2) := HB1.out.trans (hb2.mono HB1.out.size)
    clear hb2 HB1 HR1
    obtain ⟨r0, r1, r2, r3, r4, r5⟩ := six_box hr
    have rf0 := frozen_box hr 0
    have rf1 := frozen_box hr 1
    have rf2 := frozen_box hr 2
    have rf3 := frozen_box hr 3
    have rf4 := frozen_box hr 4
    have rf5 := frozen_box hr 5
    go_wp2_with fail
    obtain ⟨W9, hW9⟩ : ∃ W9, ((((((W2.setCell ⟨w.heap.size + 2, 0, none⟩ (.int .i64 2)).setCell ⟨w.heap.size + 2, 1, none⟩ (.bool B)).setCell ⟨w.heap.size + 2, 2, none⟩ (.int .i64 0)).setCell ⟨w.heap.size + 2, 3, none⟩ (.string ⟨#[]⟩)).setCell ⟨w.heap.size + 2, 4, none⟩ (.slice none 0 0)).setCell ⟨w.heap.size + 2, 5, none⟩ (.slice none 0 0)) = W9 := ⟨_, rfl⟩
    rw [hW9]
    obtain ⟨q1, q2, q3, q4⟩ := set6 _ _ _ _ _ _ hr hW9
    first | refine out_ret (results_cell_row rfl _ W9 (w.heap.size + 2) 26 _ (0, 0) _ rfl q1 Tryz.underlying26 rfl (by kernel_rfl)) rfl ?_ | refine bodyPost_ret (results_cell_row rfl _ W9 (w.heap.size + 2) 26 _ (0, 0) _ rfl q1 Tryz.underlying26 rfl (by kernel_rfl)) rfl ?_
    rw [← HU.out]
    exact ⟨rfl, q4 _ _ (by omega) HB2.out⟩
  · rw [if_neg h1] at hA hU
    obtain ⟨rfl, hb1⟩ := hA
    subst hU
    exact ⟨rfl, rfl, HB.out.trans (hb1.mono HB.out.size)⟩
end Go.Proofs.YtpaigpijaifeoaaGreatDoor.VBi

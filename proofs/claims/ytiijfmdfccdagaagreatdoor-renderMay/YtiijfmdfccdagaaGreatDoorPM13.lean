import Derived.Below
import Derived.Laws.AppendOwn
import Derived.LoopN
import Derived.LoopTactic
import Derived.Maps.AppendAt
import Derived.ProofKit
import Derived.Test.YtiijfmdfccdagaaGreatDoorProg
import Derived.WalkKit
import Derived.Test.YtiijfmdfccdagaaGreatDoorPM06
import Derived.Test.YtiijfmdfccdagaaGreatDoorPM07
open Go.Proofs.Tryz
set_option linter.unusedVariables false
set_option maxRecDepth 100000
set_option maxHeartbeats 3200000
namespace Go.Proofs.YtiijfmdfccdagaaGreatDoor.VBi
open Go.RowKit Base VPure VSm VIn VEx
theorem bit_rng (o x y : Int) : -9223372036854775808 <= bit o x y /\ bit o x y <= 9223372036854775807 := by
 unfold bit
 repeat' split
 all_goals (unfold Go.bits; simp only []; rw [IntKind.wrap_i64]; omega)
theorem bits_20 (k1 : Int) (b1 : Bool) (i1 : Int) (s1 : ByteArray) (n1 l1 : Value) (k2 : Int) (b2 : Bool) (i2 : Int) (s2 : ByteArray) (n2 l2 : Value) (w : World) :
  Calls prog 130 #[.int .i64 20, vl k1 b1 i1 s1 n1 l1, vl k2 b2 i2 s2 n2 l2] w fun e w' => An w w' e (fun c : Int => v0 3 false c ⟨#[]⟩) (twX k1 k2 (bit 20 i1 i2)) := by
 obtain ⟨W0, hW0, hs0, hb0, hp, hq, hr⟩ := two3 w #[.int .i64 k1, .bool b1, .int .i64 i1, .string s1, n1, l1] #[.int .i64 k2, .bool b2, .int .i64 i2, .string s2, n2, l2]
 have HR := hid hr
 have HB := hid hb0
 obtain ⟨p0, p1, p2, p3, p4, p5⟩ := six_box hp
 obtain ⟨q0, q1, q2, q3, q4, q5⟩ := six_box hq
 have cI := integers_c k1 b1 i1 s1 n1 l1 k2 b2 i2 s2 n2 l2 W0
 have eX : Go.bits .and .i64 i1 i2 = bit 20 i1 i2 := rfl
 obtain ⟨X, hX⟩ : ∃ X, bit 20 i1 i2 = X := ⟨_, rfl⟩
 rw [hX] at eX ⊢
 have cN := number_c X
 obtain ⟨U, hU⟩ : ∃ U, twX k1 k2 X = U := ⟨_, rfl⟩
 rw [hU]
 unfold twX at hU
 clear hp hq hb0 hr hX
 go_enter func130, ntmps130
 go_wp2_with fail
 try rw [hW0]
 refine cI.mono ?_
 intro e W1 hA
 clear cI
 by_cases h1 : k1 = 3
 ·rw [if_pos h1] at hA hU
  by_cases h2 : k2 = 3
  ·rw [if_pos h2] at hA hU
   obtain ⟨rfl, hb1⟩ := hA
   have HR1 := hid ((hb1.block (w.heap.size + 2) (by omega)).trans HR.out)
   have hs1 := hb1.size
   have HB1 := hid (HB.out.trans (hb1.mono HB.out.size))
   clear hb1 HR HB p0 p1 p2 p3 p4 p5 q0 q1 q2 q3 q4 q5 h1 h2
   have HU := hid hU
   clear hU
   go_wp2_with fail
   refine (cN _).mono ?_
   rintro e W2 ⟨rfl, hb2⟩
   clear cN eX
   have hr := (hb2.block (w.heap.size + 2) (by omega)).trans HR1.out
   have HB2 := hid (HB1.out.trans (hb2.mono HB1.out.size))
   clear hb2 HB1 HR1
   obtain ⟨r0, r1, r2, r3, r4, r5⟩ := six_box hr
   obtain ⟨rf0, rf1, rf2, rf3, rf4, rf5⟩ := Base.frz6 hr
   go_wp2_with fail
   obtain ⟨W9, hW9⟩ := stc6 W2 (w.heap.size + 2) (.int .i64 3) (.bool false) (.int .i64 X) (.string ⟨#[]⟩) (.slice none 0 0) (.slice none 0 0)
   rw [hW9]
   obtain ⟨q1, q2, q3, q4⟩ := set6 _ _ _ _ _ _ hr hW9
   first | refine out_ret (results_cell_row rfl _ W9 (w.heap.size + 2) 26 _ (0, 0) _ rfl q1 underlying26 rfl (by kernel_rfl)) rfl ?_ | refine bodyPost_ret (results_cell_row rfl _ W9 (w.heap.size + 2) 26 _ (0, 0) _ rfl q1 underlying26 rfl (by kernel_rfl)) rfl ?_
   rw [<- HU.out]
   exact ⟨rfl, q4 _ _ (by omega) HB2.out⟩
  ·rw [if_neg h2] at hA hU
   obtain ⟨rfl, hb1⟩ := hA
   subst hU
   exact ⟨rfl, rfl, HB.out.trans (hb1.mono HB.out.size)⟩
 ·rw [if_neg h1] at hA hU
  obtain ⟨rfl, hb1⟩ := hA
  subst hU
  exact ⟨rfl, rfl, HB.out.trans (hb1.mono HB.out.size)⟩
theorem bits_21 (k1 : Int) (b1 : Bool) (i1 : Int) (s1 : ByteArray) (n1 l1 : Value) (k2 : Int) (b2 : Bool) (i2 : Int) (s2 : ByteArray) (n2 l2 : Value) (w : World) :
  Calls prog 130 #[.int .i64 21, vl k1 b1 i1 s1 n1 l1, vl k2 b2 i2 s2 n2 l2] w fun e w' => An w w' e (fun c : Int => v0 3 false c ⟨#[]⟩) (twX k1 k2 (bit 21 i1 i2)) := by
 obtain ⟨W0, hW0, hs0, hb0, hp, hq, hr⟩ := two3 w #[.int .i64 k1, .bool b1, .int .i64 i1, .string s1, n1, l1] #[.int .i64 k2, .bool b2, .int .i64 i2, .string s2, n2, l2]
 have HR := hid hr
 have HB := hid hb0
 obtain ⟨p0, p1, p2, p3, p4, p5⟩ := six_box hp
 obtain ⟨q0, q1, q2, q3, q4, q5⟩ := six_box hq
 have cI := integers_c k1 b1 i1 s1 n1 l1 k2 b2 i2 s2 n2 l2 W0
 have eX : Go.bits .xor .i64 i1 i2 = bit 21 i1 i2 := rfl
 obtain ⟨X, hX⟩ : ∃ X, bit 21 i1 i2 = X := ⟨_, rfl⟩
 rw [hX] at eX ⊢
 have cN := number_c X
 obtain ⟨U, hU⟩ : ∃ U, twX k1 k2 X = U := ⟨_, rfl⟩
 rw [hU]
 unfold twX at hU
 clear hp hq hb0 hr hX
 go_enter func130, ntmps130
 go_wp2_with fail
 try rw [hW0]
 refine cI.mono ?_
 intro e W1 hA
 clear cI
 by_cases h1 : k1 = 3
 ·rw [if_pos h1] at hA hU
  by_cases h2 : k2 = 3
  ·rw [if_pos h2] at hA hU
   obtain ⟨rfl, hb1⟩ := hA
   have HR1 := hid ((hb1.block (w.heap.size + 2) (by omega)).trans HR.out)
   have hs1 := hb1.size
   have HB1 := hid (HB.out.trans (hb1.mono HB.out.size))
   clear hb1 HR HB p0 p1 p2 p3 p4 p5 q0 q1 q2 q3 q4 q5 h1 h2
   have HU := hid hU
   clear hU
   go_wp2_with fail
   refine (cN _).mono ?_
   rintro e W2 ⟨rfl, hb2⟩
   clear cN eX
   have hr := (hb2.block (w.heap.size + 2) (by omega)).trans HR1.out
   have HB2 := hid (HB1.out.trans (hb2.mono HB1.out.size))
   clear hb2 HB1 HR1
   obtain ⟨r0, r1, r2, r3, r4, r5⟩ := six_box hr
   obtain ⟨rf0, rf1, rf2, rf3, rf4, rf5⟩ := Base.frz6 hr
   go_wp2_with fail
   obtain ⟨W9, hW9⟩ := stc6 W2 (w.heap.size + 2) (.int .i64 3) (.bool false) (.int .i64 X) (.string ⟨#[]⟩) (.slice none 0 0) (.slice none 0 0)
   rw [hW9]
   obtain ⟨q1, q2, q3, q4⟩ := set6 _ _ _ _ _ _ hr hW9
   first | refine out_ret (results_cell_row rfl _ W9 (w.heap.size + 2) 26 _ (0, 0) _ rfl q1 underlying26 rfl (by kernel_rfl)) rfl ?_ | refine bodyPost_ret (results_cell_row rfl _ W9 (w.heap.size + 2) 26 _ (0, 0) _ rfl q1 underlying26 rfl (by kernel_rfl)) rfl ?_
   rw [<- HU.out]
   exact ⟨rfl, q4 _ _ (by omega) HB2.out⟩
  ·rw [if_neg h2] at hA hU
   obtain ⟨rfl, hb1⟩ := hA
   subst hU
   exact ⟨rfl, rfl, HB.out.trans (hb1.mono HB.out.size)⟩
 ·rw [if_neg h1] at hA hU
  obtain ⟨rfl, hb1⟩ := hA
  subst hU
  exact ⟨rfl, rfl, HB.out.trans (hb1.mono HB.out.size)⟩
theorem bits_22 (k1 : Int) (b1 : Bool) (i1 : Int) (s1 : ByteArray) (n1 l1 : Value) (k2 : Int) (b2 : Bool) (i2 : Int) (s2 : ByteArray) (n2 l2 : Value) (w : World) :
  Calls prog 130 #[.int .i64 22, vl k1 b1 i1 s1 n1 l1, vl k2 b2 i2 s2 n2 l2] w fun e w' => An w w' e (fun c : Int => v0 3 false c ⟨#[]⟩) (twX k1 k2 (bit 22 i1 i2)) := by
 obtain ⟨W0, hW0, hs0, hb0, hp, hq, hr⟩ := two3 w #[.int .i64 k1, .bool b1, .int .i64 i1, .string s1, n1, l1] #[.int .i64 k2, .bool b2, .int .i64 i2, .string s2, n2, l2]
 have HR := hid hr
 have HB := hid hb0
 obtain ⟨p0, p1, p2, p3, p4, p5⟩ := six_box hp
 obtain ⟨q0, q1, q2, q3, q4, q5⟩ := six_box hq
 have cI := integers_c k1 b1 i1 s1 n1 l1 k2 b2 i2 s2 n2 l2 W0
 have eX : Go.bits .or .i64 i1 i2 = bit 22 i1 i2 := rfl
 obtain ⟨X, hX⟩ : ∃ X, bit 22 i1 i2 = X := ⟨_, rfl⟩
 rw [hX] at eX ⊢
 have cN := number_c X
 obtain ⟨U, hU⟩ : ∃ U, twX k1 k2 X = U := ⟨_, rfl⟩
 rw [hU]
 unfold twX at hU
 clear hp hq hb0 hr hX
 go_enter func130, ntmps130
 go_wp2_with fail
 try rw [hW0]
 refine cI.mono ?_
 intro e W1 hA
 clear cI
 by_cases h1 : k1 = 3
 ·rw [if_pos h1] at hA hU
  by_cases h2 : k2 = 3
  ·rw [if_pos h2] at hA hU
   obtain ⟨rfl, hb1⟩ := hA
   have HR1 := hid ((hb1.block (w.heap.size + 2) (by omega)).trans HR.out)
   have hs1 := hb1.size
   have HB1 := hid (HB.out.trans (hb1.mono HB.out.size))
   clear hb1 HR HB p0 p1 p2 p3 p4 p5 q0 q1 q2 q3 q4 q5 h1 h2
   have HU := hid hU
   clear hU
   go_wp2_with fail
   refine (cN _).mono ?_
   rintro e W2 ⟨rfl, hb2⟩
   clear cN eX
   have hr := (hb2.block (w.heap.size + 2) (by omega)).trans HR1.out
   have HB2 := hid (HB1.out.trans (hb2.mono HB1.out.size))
   clear hb2 HB1 HR1
   obtain ⟨r0, r1, r2, r3, r4, r5⟩ := six_box hr
   obtain ⟨rf0, rf1, rf2, rf3, rf4, rf5⟩ := Base.frz6 hr
   go_wp2_with fail
   obtain ⟨W9, hW9⟩ := stc6 W2 (w.heap.size + 2) (.int .i64 3) (.bool false) (.int .i64 X) (.string ⟨#[]⟩) (.slice none 0 0) (.slice none 0 0)
   rw [hW9]
   obtain ⟨q1, q2, q3, q4⟩ := set6 _ _ _ _ _ _ hr hW9
   first | refine out_ret (results_cell_row rfl _ W9 (w.heap.size + 2) 26 _ (0, 0) _ rfl q1 underlying26 rfl (by kernel_rfl)) rfl ?_ | refine bodyPost_ret (results_cell_row rfl _ W9 (w.heap.size + 2) 26 _ (0, 0) _ rfl q1 underlying26 rfl (by kernel_rfl)) rfl ?_
   rw [<- HU.out]
   exact ⟨rfl, q4 _ _ (by omega) HB2.out⟩
  ·rw [if_neg h2] at hA hU
   obtain ⟨rfl, hb1⟩ := hA
   subst hU
   exact ⟨rfl, rfl, HB.out.trans (hb1.mono HB.out.size)⟩
 ·rw [if_neg h1] at hA hU
  obtain ⟨rfl, hb1⟩ := hA
  subst hU
  exact ⟨rfl, rfl, HB.out.trans (hb1.mono HB.out.size)⟩
theorem pair_20 (k1 : Int) (b1 : Bool) (i1 : Int) (s1 : ByteArray) (n1 l1 : Value) (k2 : Int) (b2 : Bool) (i2 : Int) (s2 : ByteArray) (n2 l2 : Value) (w : World) :
  Calls prog 94 #[.int .i64 20, vl k1 b1 i1 s1 n1 l1, vl k2 b2 i2 s2 n2 l2] w fun e w' => An w w' e (fun c : Int => v0 3 false c ⟨#[]⟩) (twX k1 k2 (bit 20 i1 i2)) := by
 obtain ⟨W0, hW0, hs0, hb0, hp, hq, hr⟩ := two3 w #[.int .i64 k1, .bool b1, .int .i64 i1, .string s1, n1, l1] #[.int .i64 k2, .bool b2, .int .i64 i2, .string s2, n2, l2]
 have HR := hid hr
 have HB := hid hb0
 obtain ⟨p0, p1, p2, p3, p4, p5⟩ := six_box hp
 obtain ⟨q0, q1, q2, q3, q4, q5⟩ := six_box hq
 have cI := bits_20 k1 b1 i1 s1 n1 l1 k2 b2 i2 s2 n2 l2 W0
 obtain ⟨U, hU⟩ : ∃ U, twX k1 k2 (bit 20 i1 i2) = U := ⟨_, rfl⟩
 rw [hU] at cI ⊢
 clear hp hq hb0 hr hU
 go_enter func94, ntmps94
 go_upto_if 31 with fail
 refine wp_cond_true (by rfl) ?_
 refine wp_skip ?_
 refine ex_norm ?_
 apply_assumption
 go_upto_if 31 with fail
 refine wp_cond_true (by rfl) ?_
 refine wp_exit ?_
 repeat (first | (with_reducible refine ex_then ?_) | (with_reducible refine ex_skip (by decide) ?_))
 refine ex_hit ?_
 refine ex_norm ?_
 apply_assumption
 refine wp_mono (Q := Out ?outB) ?outM (out_mono ?outR ?outP)
 case outR => intro a w h; (repeat (first | (with_reducible refine rt_then ?_) | (with_reducible refine rt_blk ?_))); exact h
 case outP => intro c a w h; (repeat (first | (with_reducible refine pn_then ?_) | (with_reducible refine pn_blk ?_))); exact h
 try simp only [hW0]
 go_wp2_with fail
 try rw [hW0]
 refine cI.mono ?_
 intro e W2 hA
 clear cI
 cases U with
 | error c =>
  obtain ⟨rfl, hb1⟩ := hA
  exact ⟨rfl, rfl, HB.out.trans (hb1.mono HB.out.size)⟩
 | ok y =>
  obtain ⟨rfl, hb2⟩ := hA
  have HR1 := HR
  have HB1 := HB
  clear HR HB
  have hr := (hb2.block (w.heap.size + 2) (by omega)).trans HR1.out
  have HB2 := hid (HB1.out.trans (hb2.mono HB1.out.size))
  clear hb2 HB1 HR1
  obtain ⟨r0, r1, r2, r3, r4, r5⟩ := six_box hr
  obtain ⟨rf0, rf1, rf2, rf3, rf4, rf5⟩ := Base.frz6 hr
  go_wp2_with fail
  obtain ⟨W9, hW9⟩ := stc6 W2 (w.heap.size + 2) (.int .i64 3) (.bool false) (.int .i64 y) (.string ⟨#[]⟩) (.slice none 0 0) (.slice none 0 0)
  rw [hW9]
  obtain ⟨q1, q2, q3, q4⟩ := set6 _ _ _ _ _ _ hr hW9
  first | refine out_ret (results_cell_row rfl _ W9 (w.heap.size + 2) 26 _ (0, 0) _ rfl q1 underlying26 rfl (by kernel_rfl)) rfl ?_ | refine bodyPost_ret (results_cell_row rfl _ W9 (w.heap.size + 2) 26 _ (0, 0) _ rfl q1 underlying26 rfl (by kernel_rfl)) rfl ?_
  exact ⟨rfl, q4 _ _ (by omega) HB2.out⟩
theorem pair_21 (k1 : Int) (b1 : Bool) (i1 : Int) (s1 : ByteArray) (n1 l1 : Value) (k2 : Int) (b2 : Bool) (i2 : Int) (s2 : ByteArray) (n2 l2 : Value) (w : World) :
  Calls prog 94 #[.int .i64 21, vl k1 b1 i1 s1 n1 l1, vl k2 b2 i2 s2 n2 l2] w fun e w' => An w w' e (fun c : Int => v0 3 false c ⟨#[]⟩) (twX k1 k2 (bit 21 i1 i2)) := by
 obtain ⟨W0, hW0, hs0, hb0, hp, hq, hr⟩ := two3 w #[.int .i64 k1, .bool b1, .int .i64 i1, .string s1, n1, l1] #[.int .i64 k2, .bool b2, .int .i64 i2, .string s2, n2, l2]
 have HR := hid hr
 have HB := hid hb0
 obtain ⟨p0, p1, p2, p3, p4, p5⟩ := six_box hp
 obtain ⟨q0, q1, q2, q3, q4, q5⟩ := six_box hq
 have cI := bits_21 k1 b1 i1 s1 n1 l1 k2 b2 i2 s2 n2 l2 W0
 obtain ⟨U, hU⟩ : ∃ U, twX k1 k2 (bit 21 i1 i2) = U := ⟨_, rfl⟩
 rw [hU] at cI ⊢
 clear hp hq hb0 hr hU
 go_enter func94, ntmps94
 go_upto_if 31 with fail
 refine wp_cond_false (by rfl) ?_
 go_upto_if 31 with fail
 refine wp_cond_true (by rfl) ?_
 refine wp_skip ?_
 refine ex_norm ?_
 apply_assumption
 go_upto_if 31 with fail
 refine wp_cond_true (by rfl) ?_
 refine wp_exit ?_
 repeat (first | (with_reducible refine ex_then ?_) | (with_reducible refine ex_skip (by decide) ?_))
 refine ex_hit ?_
 refine ex_norm ?_
 apply_assumption
 refine wp_mono (Q := Out ?outB) ?outM (out_mono ?outR ?outP)
 case outR => intro a w h; (repeat (first | (with_reducible refine rt_then ?_) | (with_reducible refine rt_blk ?_))); exact h
 case outP => intro c a w h; (repeat (first | (with_reducible refine pn_then ?_) | (with_reducible refine pn_blk ?_))); exact h
 try simp only [hW0]
 go_wp2_with fail
 try rw [hW0]
 refine cI.mono ?_
 intro e W2 hA
 clear cI
 cases U with
 | error c =>
  obtain ⟨rfl, hb1⟩ := hA
  exact ⟨rfl, rfl, HB.out.trans (hb1.mono HB.out.size)⟩
 | ok y =>
  obtain ⟨rfl, hb2⟩ := hA
  have HR1 := HR
  have HB1 := HB
  clear HR HB
  have hr := (hb2.block (w.heap.size + 2) (by omega)).trans HR1.out
  have HB2 := hid (HB1.out.trans (hb2.mono HB1.out.size))
  clear hb2 HB1 HR1
  obtain ⟨r0, r1, r2, r3, r4, r5⟩ := six_box hr
  obtain ⟨rf0, rf1, rf2, rf3, rf4, rf5⟩ := Base.frz6 hr
  go_wp2_with fail
  obtain ⟨W9, hW9⟩ := stc6 W2 (w.heap.size + 2) (.int .i64 3) (.bool false) (.int .i64 y) (.string ⟨#[]⟩) (.slice none 0 0) (.slice none 0 0)
  rw [hW9]
  obtain ⟨q1, q2, q3, q4⟩ := set6 _ _ _ _ _ _ hr hW9
  first | refine out_ret (results_cell_row rfl _ W9 (w.heap.size + 2) 26 _ (0, 0) _ rfl q1 underlying26 rfl (by kernel_rfl)) rfl ?_ | refine bodyPost_ret (results_cell_row rfl _ W9 (w.heap.size + 2) 26 _ (0, 0) _ rfl q1 underlying26 rfl (by kernel_rfl)) rfl ?_
  exact ⟨rfl, q4 _ _ (by omega) HB2.out⟩
theorem pair_22 (k1 : Int) (b1 : Bool) (i1 : Int) (s1 : ByteArray) (n1 l1 : Value) (k2 : Int) (b2 : Bool) (i2 : Int) (s2 : ByteArray) (n2 l2 : Value) (w : World) :
  Calls prog 94 #[.int .i64 22, vl k1 b1 i1 s1 n1 l1, vl k2 b2 i2 s2 n2 l2] w fun e w' => An w w' e (fun c : Int => v0 3 false c ⟨#[]⟩) (twX k1 k2 (bit 22 i1 i2)) := by
 obtain ⟨W0, hW0, hs0, hb0, hp, hq, hr⟩ := two3 w #[.int .i64 k1, .bool b1, .int .i64 i1, .string s1, n1, l1] #[.int .i64 k2, .bool b2, .int .i64 i2, .string s2, n2, l2]
 have HR := hid hr
 have HB := hid hb0
 obtain ⟨p0, p1, p2, p3, p4, p5⟩ := six_box hp
 obtain ⟨q0, q1, q2, q3, q4, q5⟩ := six_box hq
 have cI := bits_22 k1 b1 i1 s1 n1 l1 k2 b2 i2 s2 n2 l2 W0
 obtain ⟨U, hU⟩ : ∃ U, twX k1 k2 (bit 22 i1 i2) = U := ⟨_, rfl⟩
 rw [hU] at cI ⊢
 clear hp hq hb0 hr hU
 go_enter func94, ntmps94
 go_upto_if 31 with fail
 refine wp_cond_false (by rfl) ?_
 go_upto_if 31 with fail
 refine wp_cond_false (by rfl) ?_
 go_upto_if 31 with fail
 refine wp_cond_true (by rfl) ?_
 refine wp_exit ?_
 repeat (first | (with_reducible refine ex_then ?_) | (with_reducible refine ex_skip (by decide) ?_))
 refine ex_hit ?_
 refine ex_norm ?_
 apply_assumption
 refine wp_mono (Q := Out ?outB) ?outM (out_mono ?outR ?outP)
 case outR => intro a w h; (repeat (first | (with_reducible refine rt_then ?_) | (with_reducible refine rt_blk ?_))); exact h
 case outP => intro c a w h; (repeat (first | (with_reducible refine pn_then ?_) | (with_reducible refine pn_blk ?_))); exact h
 try simp only [hW0]
 go_wp2_with fail
 try rw [hW0]
 refine cI.mono ?_
 intro e W2 hA
 clear cI
 cases U with
 | error c =>
  obtain ⟨rfl, hb1⟩ := hA
  exact ⟨rfl, rfl, HB.out.trans (hb1.mono HB.out.size)⟩
 | ok y =>
  obtain ⟨rfl, hb2⟩ := hA
  have HR1 := HR
  have HB1 := HB
  clear HR HB
  have hr := (hb2.block (w.heap.size + 2) (by omega)).trans HR1.out
  have HB2 := hid (HB1.out.trans (hb2.mono HB1.out.size))
  clear hb2 HB1 HR1
  obtain ⟨r0, r1, r2, r3, r4, r5⟩ := six_box hr
  obtain ⟨rf0, rf1, rf2, rf3, rf4, rf5⟩ := Base.frz6 hr
  go_wp2_with fail
  obtain ⟨W9, hW9⟩ := stc6 W2 (w.heap.size + 2) (.int .i64 3) (.bool false) (.int .i64 y) (.string ⟨#[]⟩) (.slice none 0 0) (.slice none 0 0)
  rw [hW9]
  obtain ⟨q1, q2, q3, q4⟩ := set6 _ _ _ _ _ _ hr hW9
  first | refine out_ret (results_cell_row rfl _ W9 (w.heap.size + 2) 26 _ (0, 0) _ rfl q1 underlying26 rfl (by kernel_rfl)) rfl ?_ | refine bodyPost_ret (results_cell_row rfl _ W9 (w.heap.size + 2) 26 _ (0, 0) _ rfl q1 underlying26 rfl (by kernel_rfl)) rfl ?_
  exact ⟨rfl, q4 _ _ (by omega) HB2.out⟩
theorem pair_11 (k1 : Int) (b1 : Bool) (i1 : Int) (s1 : ByteArray) (n1 l1 : Value) (k2 : Int) (b2 : Bool) (i2 : Int) (s2 : ByteArray) (n2 l2 : Value) (w : World) :
  Calls prog 94 #[.int .i64 11, vl k1 b1 i1 s1 n1 l1, vl k2 b2 i2 s2 n2 l2] w fun e w' => An w w' e (fun c : Bool => v0 2 c 0 ⟨#[]⟩) (if k1 = 2 then .ok (!b1) else .error 1101) := by
 obtain ⟨W0, hW0, hs0, hb0, hp, hq, hr⟩ := two3 w #[.int .i64 k1, .bool b1, .int .i64 i1, .string s1, n1, l1] #[.int .i64 k2, .bool b2, .int .i64 i2, .string s2, n2, l2]
 have HR := hid hr
 have HB := hid hb0
 obtain ⟨p0, p1, p2, p3, p4, p5⟩ := six_box hp
 obtain ⟨q0, q1, q2, q3, q4, q5⟩ := six_box hq
 have cI := isTrue_c k1 b1 i1 s1 n1 l1 W0
 have cT := truth_c (!b1)
 obtain ⟨B, hB⟩ : ∃ B, (!b1) = B := ⟨_, rfl⟩
 rw [hB] at cT ⊢
 obtain ⟨U, hU⟩ : ∃ U, (if k1 = 2 then (.ok B : Except Nat Bool) else .error 1101) = U := ⟨_, rfl⟩
 rw [hU]
 clear hp hq hb0 hr
 go_enter func94, ntmps94
 go_upto_if 13 with fail
 refine wp_cond_true (by rfl) ?_
 refine wp_exit ?_
 repeat (first | (with_reducible refine ex_then ?_) | (with_reducible refine ex_skip (by decide) ?_))
 refine ex_hit ?_
 refine ex_norm ?_
 apply_assumption
 refine wp_mono (Q := Out ?outB) ?outM (out_mono ?outR ?outP)
 case outR => intro a w h; (repeat (first | (with_reducible refine rt_then ?_) | (with_reducible refine rt_blk ?_))); exact h
 case outP => intro c a w h; (repeat (first | (with_reducible refine pn_then ?_) | (with_reducible refine pn_blk ?_))); exact h
 try simp only [hW0]
 go_wp2_with fail
 try rw [hW0]
 refine cI.mono ?_
 intro e W1 hA
 clear cI
 by_cases h1 : k1 = 2
 ·rw [if_pos h1] at hA hU
  obtain ⟨rfl, hb1⟩ := hA
  have HR1 := hid ((hb1.block (w.heap.size + 2) (by omega)).trans HR.out)
  have hs1 := hb1.size
  have HB1 := hid (HB.out.trans (hb1.mono HB.out.size))
  clear hb1 HR HB p0 p1 p2 p3 p4 p5 q0 q1 q2 q3 q4 q5 h1
  have HU := hid hU
  clear hU
  go_wp2_with fail
  refine (cT _).mono ?_
  rintro e W2 ⟨rfl, hb2⟩
  clear cT
  have hr := (hb2.block (w.heap.size + 2) (by omega)).trans HR1.out
  have HB2 := hid (HB1.out.trans (hb2.mono HB1.out.size))
  clear hb2 HB1 HR1
  obtain ⟨r0, r1, r2, r3, r4, r5⟩ := six_box hr
  obtain ⟨rf0, rf1, rf2, rf3, rf4, rf5⟩ := Base.frz6 hr
  go_wp2_with fail
  obtain ⟨W9, hW9⟩ := stc6 W2 (w.heap.size + 2) (.int .i64 2) (.bool B) (.int .i64 0) (.string ⟨#[]⟩) (.slice none 0 0) (.slice none 0 0)
  rw [hW9]
  obtain ⟨q1, q2, q3, q4⟩ := set6 _ _ _ _ _ _ hr hW9
  first | refine out_ret (results_cell_row rfl _ W9 (w.heap.size + 2) 26 _ (0, 0) _ rfl q1 underlying26 rfl (by kernel_rfl)) rfl ?_ | refine bodyPost_ret (results_cell_row rfl _ W9 (w.heap.size + 2) 26 _ (0, 0) _ rfl q1 underlying26 rfl (by kernel_rfl)) rfl ?_
  rw [<- HU.out]
  exact ⟨rfl, q4 _ _ (by omega) HB2.out⟩
 ·rw [if_neg h1] at hA hU
  obtain ⟨rfl, hb1⟩ := hA
  subst hU
  exact ⟨rfl, rfl, HB.out.trans (hb1.mono HB.out.size)⟩
end Go.Proofs.YtiijfmdfccdagaaGreatDoor.VBi
namespace Go.Proofs.YtiijfmdfccdagaaGreatDoor.VTo
open Go.RowKit Base VPure VSm Sums
theorem tun_rng (n x : Int) : -9223372036854775808 <= tun n x /\ tun n x <= 9223372036854775807 := by
 unfold tun
 repeat' split
 all_goals omega
theorem wrap_i8 (a : Int) : IntKind.i8.wrap a = (a + 128) % 256 - 128 := by
 simp only [IntKind.wrap, IntKind.bits, IntKind.signed, Bool.true_and, decide_eq_true_eq, Nat.reduceSub, Int.reducePow, ge_iff_le]
 split <;> omega
theorem wrap_u16 (a : Int) : IntKind.u16.wrap a = a % 65536 := by
 simp [IntKind.wrap, IntKind.bits, IntKind.signed]
theorem wrap_i16 (a : Int) : IntKind.i16.wrap a = (a + 32768) % 65536 - 32768 := by
 simp only [IntKind.wrap, IntKind.bits, IntKind.signed, Bool.true_and, decide_eq_true_eq, Nat.reduceSub, Int.reducePow, ge_iff_le]
 split <;> omega
theorem w64 {a : Int} (h : -9223372036854775808 <= a /\ a <= 9223372036854775807) : wrap64 a = a := by unfold wrap64; omega
theorem to_3 (a : Int) (w : World) :
  Calls prog 163 #[.int .i64 a, .int .i64 8, .bool true] w fun e w' => e = .returned (.tuple #[.int .i64 (tun 3 a), .int .i64 0]) /\ w' = w := by
 have e : tun 3 a = (a + 128) % 256 - 128 := rfl
 rw [e]
 clear e
 go_enter func163, ntmps163
 go_wp2_with fail
 go_ret2
 exact ⟨ret2 (by first | rfl | (rw [wrap_i8, w64 (by omega)]) | (rw [wrap_i16, w64 (by omega)]) | (rw [wrap_u16, w64 (by omega)]) | (rw [wrap_i32, w64 (by omega)]) | (unfold wrap32 wrap64; omega) | (unfold wrap32; omega) | (simp only [wrap_i8, wrap_i16, wrap_u16, wrap_i32]; first | rfl | (rw [w64 (by omega)]) | (unfold wrap64; omega))) rfl, rfl⟩
theorem to_4 (a : Int) (w : World) :
  Calls prog 163 #[.int .i64 a, .int .i64 8, .bool false] w fun e w' => e = .returned (.tuple #[.int .i64 (tun 4 a), .int .i64 0]) /\ w' = w := by
 have e : tun 4 a = a % 256 := rfl
 rw [e]
 clear e
 go_enter func163, ntmps163
 go_wp2_with fail
 go_ret2
 exact ⟨ret2 (by first | rfl | (rw [wrap_i8, w64 (by omega)]) | (rw [wrap_i16, w64 (by omega)]) | (rw [wrap_u16, w64 (by omega)]) | (rw [wrap_i32, w64 (by omega)]) | (unfold wrap32 wrap64; omega) | (unfold wrap32; omega) | (simp only [wrap_i8, wrap_i16, wrap_u16, wrap_i32]; first | rfl | (rw [w64 (by omega)]) | (unfold wrap64; omega))) rfl, rfl⟩
theorem to_5 (a : Int) (w : World) :
  Calls prog 163 #[.int .i64 a, .int .i64 16, .bool true] w fun e w' => e = .returned (.tuple #[.int .i64 (tun 5 a), .int .i64 0]) /\ w' = w := by
 have e : tun 5 a = (a + 32768) % 65536 - 32768 := rfl
 rw [e]
 clear e
 go_enter func163, ntmps163
 go_wp2_with fail
 go_ret2
 exact ⟨ret2 (by first | rfl | (rw [wrap_i8, w64 (by omega)]) | (rw [wrap_i16, w64 (by omega)]) | (rw [wrap_u16, w64 (by omega)]) | (rw [wrap_i32, w64 (by omega)]) | (unfold wrap32 wrap64; omega) | (unfold wrap32; omega) | (simp only [wrap_i8, wrap_i16, wrap_u16, wrap_i32]; first | rfl | (rw [w64 (by omega)]) | (unfold wrap64; omega))) rfl, rfl⟩
theorem to_6 (a : Int) (w : World) :
  Calls prog 163 #[.int .i64 a, .int .i64 16, .bool false] w fun e w' => e = .returned (.tuple #[.int .i64 (tun 6 a), .int .i64 0]) /\ w' = w := by
 have e : tun 6 a = a % 65536 := rfl
 rw [e]
 clear e
 go_enter func163, ntmps163
 go_wp2_with fail
 go_ret2
 exact ⟨ret2 (by first | rfl | (rw [wrap_i8, w64 (by omega)]) | (rw [wrap_i16, w64 (by omega)]) | (rw [wrap_u16, w64 (by omega)]) | (rw [wrap_i32, w64 (by omega)]) | (unfold wrap32 wrap64; omega) | (unfold wrap32; omega) | (simp only [wrap_i8, wrap_i16, wrap_u16, wrap_i32]; first | rfl | (rw [w64 (by omega)]) | (unfold wrap64; omega))) rfl, rfl⟩
theorem to_7 (a : Int) (w : World) :
  Calls prog 163 #[.int .i64 a, .int .i64 32, .bool true] w fun e w' => e = .returned (.tuple #[.int .i64 (tun 7 a), .int .i64 0]) /\ w' = w := by
 have e : tun 7 a = (a + 2147483648) % 4294967296 - 2147483648 := rfl
 rw [e]
 clear e
 go_enter func163, ntmps163
 go_wp2_with fail
 go_ret2
 exact ⟨ret2 (by first | rfl | (rw [wrap_i8, w64 (by omega)]) | (rw [wrap_i16, w64 (by omega)]) | (rw [wrap_u16, w64 (by omega)]) | (rw [wrap_i32, w64 (by omega)]) | (unfold wrap32 wrap64; omega) | (unfold wrap32; omega) | (simp only [wrap_i8, wrap_i16, wrap_u16, wrap_i32]; first | rfl | (rw [w64 (by omega)]) | (unfold wrap64; omega))) rfl, rfl⟩
theorem to_8 (a : Int) (w : World) :
  Calls prog 163 #[.int .i64 a, .int .i64 32, .bool false] w fun e w' => e = .returned (.tuple #[.int .i64 (tun 8 a), .int .i64 0]) /\ w' = w := by
 have e : tun 8 a = a % 4294967296 := rfl
 rw [e]
 clear e
 go_enter func163, ntmps163
 go_wp2_with fail
 go_ret2
 exact ⟨ret2 (by first | rfl | (rw [wrap_i8, w64 (by omega)]) | (rw [wrap_i16, w64 (by omega)]) | (rw [wrap_u16, w64 (by omega)]) | (rw [wrap_i32, w64 (by omega)]) | (unfold wrap32 wrap64; omega) | (unfold wrap32; omega) | (simp only [wrap_i8, wrap_i16, wrap_u16, wrap_i32]; first | rfl | (rw [w64 (by omega)]) | (unfold wrap64; omega))) rfl, rfl⟩
theorem length_c (k : Int) (b : Bool) (i : Int) (s : ByteArray) (an : Option Addr) (ln cn : Nat) (al : Option Addr) (ll cl : Nat) (w : World) :
  Calls prog 161 #[vl k b i s (.slice an ln cn) (.slice al ll cl)] w fun e w' => An w w' e (Value.int .i64) (if k = 4 then .ok (s.size : Int) else if k = 5 \/ k = 6 then .ok (ll : Int) else .error 1101) := by
 obtain ⟨W0, hW0⟩ : ∃ W0, w.alloc (.cells #[.int .i64 k, .bool b, .int .i64 i, .string s, .slice an ln cn, .slice al ll cl] 26) = W0 := ⟨_, rfl⟩
 have hb0 := alB hW0
 have hp := alG hW0
 obtain ⟨p0, p1, p2, p3, p4, p5⟩ := six_box hp
 have HB := hid hb0
 have cT := must_t W0
 have cF := must_f W0
 clear hp hb0
 by_cases h4 : k = 4
 ·rw [if_pos h4]
  subst h4
  go_enter func161, ntmps161
  go_wp2_with fail
  go_ret
  exact ⟨rfl, HB.out⟩
 rw [if_neg h4]
 have e4 : (k == 4) = false := by simp [h4]
 by_cases h5 : k = 5
 ·rw [if_pos (.inl h5)]
  subst h5
  clear h4 e4
  go_enter func161, ntmps161
  go_wp2_with fail
  try rw [hW0]
  refine cT.mono ?_
  rintro e W1 ⟨⟨v, rfl⟩, rfl⟩
  go_wp2_with fail
  go_ret
  exact ⟨rfl, HB.out⟩
 have e5 : (k == 5) = false := by simp [h5]
 by_cases h6 : k = 6
 ·rw [if_pos (.inr h6)]
  subst h6
  clear h4 e4 h5 e5
  go_enter func161, ntmps161
  go_wp2_with fail
  try rw [hW0]
  refine cT.mono ?_
  rintro e W1 ⟨⟨v, rfl⟩, rfl⟩
  go_wp2_with fail
  go_ret
  exact ⟨rfl, HB.out⟩
 have e6 : (k == 6) = false := by simp [h6]
 rw [if_neg (fun h => h.elim h5 h6)]
 clear h4 h5 h6
 go_enter func161, ntmps161
 go_wp2_with fail
 try rw [hW0]
 refine cF.mono ?_
 rintro e W1 ⟨rfl, rfl⟩
 exact ⟨rfl, rfl, HB.out⟩
end Go.Proofs.YtiijfmdfccdagaaGreatDoor.VTo
namespace Go.Proofs.YtiijfmdfccdagaaGreatDoor.TBase
open Go.RowKit
structure T where
 mk ::
 (g0 : ByteArray) (s0 : ByteArray) (n0 : List (ByteArray × ByteArray)) (l0 : List T)
def T.g : T -> ByteArray | .mk g _ _ _ => g
def T.s : T -> ByteArray | .mk _ s _ _ => s
def T.n : T -> List (ByteArray × ByteArray) | .mk _ _ n _ => n
def T.l : T -> List T | .mk _ _ _ l => l
def room : ByteArray := ⟨#[126, 114, 111, 111, 109]⟩
def room4 : Value := .agg #[.string room, .string ⟨#[]⟩, .slice none 0 0, .slice none 0 0]
def room2 : ByteArray × ByteArray := (room, ⟨#[]⟩)
def Four (w : World) (g o : Nat) (u : Value) : Prop :=
 ∃ v0 v1 v2 v3, u = .agg #[v0, v1, v2, v3] /\ w.cell? ⟨g, o, none⟩ = some v0 /\ w.cell? ⟨g, o + 1, none⟩ = some v1 /\ w.cell? ⟨g, o + 2, none⟩ = some v2 /\ w.cell? ⟨g, o + 3, none⟩ = some v3
def Two (w : World) (g o : Nat) (t : ByteArray × ByteArray) : Prop := w.cell? ⟨g, o, none⟩ = some (.string t.1) /\ w.cell? ⟨g, o + 1, none⟩ = some (.string t.2)
def NAt (r : Bool) (S : Nat -> Prop) (w : World) (a : Option Addr) (cap : Nat) (n : List (ByteArray × ByteArray)) : Prop := (n = [] /\ r = false) \/ ∃ g o, a = some ⟨g, o, none⟩ /\ S g /\ (∀ j (h : j < n.length), Two w g (o + j * 2) n[j]) /\
   (r = true -> n.length + 2 <= cap /\ Two w g (o + n.length * 2) room2 /\ Two w g (o + n.length * 2 + 2) room2)
def Ax (r : Bool) (S : Nat -> Prop) (w : World) (v : Value) (n : List (ByteArray × ByteArray)) : Prop :=
 ∃ a cap, v = .slice a n.length cap /\ n.length <= cap /\ cap <= 9223372036854775807 /\ n.length * 32 <= 140737488351232 /\ (∀ t ∈ n, t.1.size <= 140737488351232 /\ t.2.size <= 140737488351232) /\ (a = none -> cap = 0) /\ NAt r S w a cap n
def In (r : Bool) (S : Nat -> Prop) (w : World) : Nat -> Value -> T -> Prop
 | 0, _, _ => False
 | m + 1, v, .mk g s n l => ∃ nv a cap, v = .agg #[.string g, .string s, nv, .slice a l.length cap] /\
   g.size <= 140737488351232 /\ s.size <= 140737488351232 /\ Ax r S w nv n /\
   l.length <= cap /\ cap <= 9223372036854775807 /\ l.length * 80 <= 140737488351232 /\ (a = none -> cap = 0) /\
   ((l = [] /\ r = false) \/ ∃ g o, a = some ⟨g, o, none⟩ /\ S g /\ (∀ j (h : j < l.length), ∃ u, Four w g (o + j * 4) u /\ In r S w m u l[j]) /\
    (r = true -> l.length + 2 <= cap /\ Four w g (o + l.length * 4) room4 /\ Four w g (o + l.length * 4 + 4) room4))
def LAt (r : Bool) (S : Nat -> Prop) (w : World) (m : Nat) (a : Option Addr) (cap : Nat) (l : List T) : Prop := (l = [] /\ r = false) \/ ∃ g o, a = some ⟨g, o, none⟩ /\ S g /\ (∀ j (h : j < l.length), ∃ u, Four w g (o + j * 4) u /\ In r S w m u l[j]) /\
    (r = true -> l.length + 2 <= cap /\ Four w g (o + l.length * 4) room4 /\ Four w g (o + l.length * 4 + 4) room4)
def InL (r : Bool) (S : Nat -> Prop) (w : World) (m : Nat) (v : Value) (l : List T) : Prop :=
 ∃ a cap, v = .slice a l.length cap /\ l.length <= cap /\ cap <= 9223372036854775807 /\ l.length * 80 <= 140737488351232 /\ (a = none -> cap = 0) /\ LAt r S w m a cap l
theorem in_iff {r : Bool} {S : Nat -> Prop} {w : World} {m : Nat} {v : Value} {g s : ByteArray} {n : List (ByteArray × ByteArray)} {l : List T} :
  In r S w (m + 1) v (.mk g s n l) ↔ ∃ nv lv, v = .agg #[.string g, .string s, nv, lv] /\
   g.size <= 140737488351232 /\ s.size <= 140737488351232 /\ Ax r S w nv n /\ InL r S w m lv l := by
 constructor
 ·intro h
  rw [In] at h
  obtain ⟨nv, a, cap, h1, h2, h3, h4, h6⟩ := h
  exact ⟨nv, _, h1, h2, h3, h4, a, cap, rfl, h6⟩
 ·rintro ⟨nv, lv, h1, h2, h3, h4, a, cap, rfl, h6⟩
  rw [In]
  exact ⟨nv, a, cap, h1, h2, h3, h4, h6⟩
theorem cell_lt {w : World} {a : Addr} {v : Value} (h : w.cell? a = some v) : a.block < w.heap.size := by
 unfold World.cell? at h
 split at h
 ·next hh => exact (Array.getElem?_eq_some_iff.1 hh).1
 ·cases h
def Keep (S : Nat -> Prop) (w w' : World) : Prop := ∀ b, S b -> b < w.heap.size -> w'.heap[b]? = w.heap[b]?
theorem Keep.cell {S : Nat -> Prop} {w w' : World} (h : Keep S w w') {g o : Nat} {v : Value} (hS : S g) (hc : w.cell? ⟨g, o, none⟩ = some v) : w'.cell? ⟨g, o, none⟩ = some v :=
 (World.cell?_of_block (w := w) (h g hS (cell_lt hc))).trans hc
theorem Keep.four {S : Nat -> Prop} {w w' : World} (h : Keep S w w') {g o : Nat} {v : Value} (hS : S g) (hc : Four w g o v) : Four w' g o v := by
 obtain ⟨v0, v1, v2, v3, rfl, c0, c1, c2, c3⟩ := hc
 exact ⟨v0, v1, v2, v3, rfl, h.cell hS c0, h.cell hS c1, h.cell hS c2, h.cell hS c3⟩
theorem Keep.two {S : Nat -> Prop} {w w' : World} (h : Keep S w w') {g o : Nat} {t : ByteArray × ByteArray} (hS : S g) (hc : Two w g o t) : Two w' g o t := ⟨h.cell hS hc.1, h.cell hS hc.2⟩
theorem Keep.of_below {S : Nat -> Prop} {w w' : World} (h : Below w.heap.size w w') : Keep S w w' := fun b _ hb => h.block b hb
theorem Ax.keep {r : Bool} {S : Nat -> Prop} {w w' : World} {v : Value} {n : List (ByteArray × ByteArray)} (h : Ax r S w v n) (hk : Keep S w w') : Ax r S w' v n := by
 obtain ⟨a, cap, h1, h2, h3, h4, h5, h6, h7⟩ := h
 refine ⟨a, cap, h1, h2, h3, h4, h5, h6, ?_⟩
 rcases h7 with h7 | ⟨g, o, ha, hS, hc, hr⟩
 ·exact .inl h7
 ·exact .inr ⟨g, o, ha, hS, fun j hj => hk.two hS (hc j hj), fun hr' => ⟨(hr hr').1, hk.two hS (hr hr').2.1, hk.two hS (hr hr').2.2⟩⟩
theorem InL.keep_of {r : Bool} {S : Nat -> Prop} {w w' : World} {m : Nat} (ih : ∀ (v : Value) (c : T), In r S w m v c -> In r S w' m v c) {v : Value} {l : List T} (h : InL r S w m v l) (hk : Keep S w w') : InL r S w' m v l := by
 obtain ⟨a, cap, h1, h2, h3, h4, h5, h6⟩ := h
 refine ⟨a, cap, h1, h2, h3, h4, h5, ?_⟩
 rcases h6 with h6 | ⟨g, o, ha, hS, hc, hr⟩
 ·exact .inl h6
 ·refine .inr ⟨g, o, ha, hS, fun j hj => ?_, fun hr' => ⟨(hr hr').1, hk.four hS (hr hr').2.1, hk.four hS (hr hr').2.2⟩⟩
  obtain ⟨u, hu, hi⟩ := hc j hj
  exact ⟨u, hk.four hS hu, ih _ _ hi⟩
theorem In.keep {r : Bool} {S : Nat -> Prop} {w w' : World} (hk : Keep S w w') : ∀ {m : Nat} {v : Value} {c : T}, In r S w m v c -> In r S w' m v c := by
 intro m
 induction m with
 | zero => intro v c h; rw [In] at h; exact h.elim
 | succ m ih =>
  intro v c h
  obtain ⟨g, s, n, l⟩ := c
  rw [in_iff] at h ⊢
  obtain ⟨nv, lv, h1, h3, h4, h5, h6⟩ := h
  exact ⟨nv, lv, h1, h3, h4, h5.keep hk, h6.keep_of (fun v c => ih) hk⟩
theorem InL.keep {r : Bool} {S : Nat -> Prop} {w w' : World} {m : Nat} {v : Value} {l : List T} (h : InL r S w m v l) (hk : Keep S w w') : InL r S w' m v l := h.keep_of (fun v c h => h.keep hk) hk
theorem Ax.below {r : Bool} {S : Nat -> Prop} {w w' : World} {v : Value} {n : List (ByteArray × ByteArray)} (h : Ax r S w v n) (hk : Below w.heap.size w w') : Ax r S w' v n := h.keep (.of_below hk)
theorem In.below {r : Bool} {S : Nat -> Prop} {w w' : World} {m : Nat} {v : Value} {c : T} (h : In r S w m v c) (hk : Below w.heap.size w w') : In r S w' m v c := h.keep (.of_below hk)
theorem Ax.weak {r : Bool} {S S' : Nat -> Prop} {w : World} {v : Value} {n : List (ByteArray × ByteArray)} (hS : ∀ b, S b -> S' b) (r' : Bool) (hr : r' = true -> r = true) (h : Ax r S w v n) : Ax r' S' w v n := by
 obtain ⟨a, cap, h1, h2, h3, h4, h5, h6, h7⟩ := h
 refine ⟨a, cap, h1, h2, h3, h4, h5, h6, ?_⟩
 rcases h7 with ⟨h7, h8⟩ | ⟨g, o, ha, hg, hc, hr0⟩
 ·refine .inl ⟨h7, ?_⟩
  cases r' with
  | true => rw [hr rfl] at h8; cases h8
  | false => rfl
 ·exact .inr ⟨g, o, ha, hS _ hg, hc, fun h => hr0 (hr h)⟩
theorem InL.weak_of {r : Bool} {S S' : Nat -> Prop} {w : World} {m m' : Nat} {v : Value} {l : List T} (hS : ∀ b, S b -> S' b) (r' : Bool) (hr : r' = true -> r = true) (ih : ∀ (v : Value) (c : T), In r S w m v c -> In r' S' w m' v c)
  (h : InL r S w m v l) : InL r' S' w m' v l := by
 obtain ⟨a, cap, h1, h2, h3, h4, h5, h6⟩ := h
 refine ⟨a, cap, h1, h2, h3, h4, h5, ?_⟩
 rcases h6 with ⟨h7, h8⟩ | ⟨g, o, ha, hg, hc, hr0⟩
 ·refine .inl ⟨h7, ?_⟩
  cases r' with
  | true => rw [hr rfl] at h8; cases h8
  | false => rfl
 ·refine .inr ⟨g, o, ha, hS _ hg, fun j hj => ?_, fun h => hr0 (hr h)⟩
  obtain ⟨u, hu, hi⟩ := hc j hj
  exact ⟨u, hu, ih _ _ hi⟩
theorem In.weak {r : Bool} {S S' : Nat -> Prop} {w : World} (hS : ∀ b, S b -> S' b) (r' : Bool) (hr : r' = true -> r = true) : ∀ {m : Nat} (m' : Nat) {v : Value} {c : T}, m <= m' -> In r S w m v c -> In r' S' w m' v c := by
 intro m
 induction m with
 | zero => intro m' v c _ h; rw [In] at h; exact h.elim
 | succ m ih =>
  intro m' v c hm h
  obtain ⟨m', rfl⟩ : ∃ q, m' = q + 1 := ⟨m' - 1, by omega⟩
  obtain ⟨g, s, n, l⟩ := c
  rw [in_iff] at h ⊢
  obtain ⟨nv, lv, h1, h3, h4, h5, h6⟩ := h
  exact ⟨nv, lv, h1, h3, h4, h5.weak hS r' hr, h6.weak_of hS r' hr (fun v c h => ih m' (by omega) h)⟩
theorem InL.weak {r : Bool} {S S' : Nat -> Prop} {w : World} (hS : ∀ b, S b -> S' b) (r' : Bool) (hr : r' = true -> r = true) {m : Nat} (m' : Nat) {v : Value} {l : List T} (hm : m <= m') (h : InL r S w m v l) : InL r' S' w m' v l :=
 h.weak_of hS r' hr (fun v c h => h.weak hS r' hr m' hm)
def All : Nat -> Prop := fun _ => True
theorem In.plain {r : Bool} {S : Nat -> Prop} {w : World} {m : Nat} {v : Value} {c : T} (h : In r S w m v c) : In false All w m v c := h.weak (fun _ _ => trivial) false (fun h => by cases h) m (Nat.le_refl _)
theorem four_box {w : World} {B : Nat} {v0 v1 v2 v3 : Value} {t : TypeId} (h : w.heap[B]? = some (.cells #[v0, v1, v2, v3] t (0, 0))) :
  w.cell? ⟨B, 0, none⟩ = some v0 /\ w.cell? ⟨B, 1, none⟩ = some v1 /\ w.cell? ⟨B, 2, none⟩ = some v2 /\ w.cell? ⟨B, 3, none⟩ = some v3 := by
 refine ⟨?_, ?_, ?_, ?_⟩ <;> simp [World.cell?, h]
theorem two_box {w : World} {B : Nat} {v0 v1 : Value} {t : TypeId} (h : w.heap[B]? = some (.cells #[v0, v1] t (0, 0))) :
  w.cell? ⟨B, 0, none⟩ = some v0 /\ w.cell? ⟨B, 1, none⟩ = some v1 := by
 refine ⟨?_, ?_⟩ <;> simp [World.cell?, h]
theorem nx {a b c : World} (h : Below a.heap.size a b) (k : Below b.heap.size b c) : Below a.heap.size a c := h.trans (k.mono h.size)
theorem add_none (g o j : Nat) : (⟨g, o, none⟩ : Addr).add j = ⟨g, o + j, none⟩ := by
 unfold Addr.add
 split
 ·simp_all
 ·rfl
theorem heap_alloc_new (w : World) (o : Obj) : (w.alloc o).heap[w.heap.size]? = some o := by
 show (w.heap.push o)[w.heap.size]? = _
 simp
theorem elem_at {r : Bool} {S : Nat -> Prop} {w : World} {m : Nat} {a : Option Addr} {cap : Nat} {l : List T} (hL : LAt r S w m a cap l) {q : Nat} (h : q < l.length) :
  ∃ g o u, a = some ⟨g, o, none⟩ /\ S g /\ Four w g (o + q * 4) u /\ In r S w m u l[q] := by
 rcases hL with ⟨rfl, _⟩ | ⟨g, o, ha, hS, hc, _⟩
 ·simp at h
 ·obtain ⟨u, hu, hi⟩ := hc q h
  exact ⟨g, o, u, ha, hS, hu, hi⟩
theorem attr_at {r : Bool} {S : Nat -> Prop} {w : World} {a : Option Addr} {cap : Nat} {n : List (ByteArray × ByteArray)} (hL : NAt r S w a cap n) {q : Nat} (h : q < n.length) :
  ∃ g o, a = some ⟨g, o, none⟩ /\ S g /\ w.cell? ⟨g, o + q * 2, none⟩ = some (.string n[q].1) /\ w.cell? ⟨g, o + q * 2 + 1, none⟩ = some (.string n[q].2) := by
 rcases hL with ⟨rfl, _⟩ | ⟨g, o, ha, hS, hc, _⟩
 ·simp at h
 ·exact ⟨g, o, ha, hS, hc q h⟩
theorem below_cell {w w' : World} {g o : Nat} {u : Value} (h : w.cell? ⟨g, o, none⟩ = some u) (hb : Below w.heap.size w w') : w'.cell? ⟨g, o, none⟩ = some u := (Keep.of_below (S := All) hb).cell trivial h
theorem In.shape {r : Bool} {S : Nat -> Prop} {w : World} {m : Nat} {v : Value} {c : T} (h : In r S w m v c) :
  ∃ m' nv lv, m = m' + 1 /\ v = .agg #[.string c.g, .string c.s, nv, lv] /\ c.g.size <= 140737488351232 /\ c.s.size <= 140737488351232 /\ Ax r S w nv c.n /\ InL r S w m' lv c.l := by
 cases m with
 | zero => rw [In] at h; exact h.elim
 | succ m =>
  obtain ⟨g, s, n, l⟩ := c
  rw [in_iff] at h
  obtain ⟨nv, lv, h⟩ := h
  exact ⟨m, nv, lv, rfl, h⟩
theorem In.four {r : Bool} {S : Nat -> Prop} {w : World} {m : Nat} {v : Value} {c : T} (h : In r S w m v c) :
  ∃ v0 v1 v2 v3, v = .agg #[v0, v1, v2, v3] /\ ∀ u ∈ [v0, v1, v2, v3], u.oneCell' = true := by
 obtain ⟨m', nv, lv, -, rfl, -, -, ⟨a, ca, rfl, -⟩, ⟨a', ca', rfl, -⟩⟩ := h.shape
 refine ⟨_, _, _, _, rfl, ?_⟩
 intro u hu
 simp at hu
 rcases hu with rfl | rfl | rfl | rfl <;> rfl
theorem In.kinds {r : Bool} {S : Nat -> Prop} {w : World} {m : Nat} {x0 x1 x2 x3 : Value} {c : T} (h : In r S w m (.agg #[x0, x1, x2, x3]) c) :
  ∃ m' a1 c1 a2 c2, m = m' + 1 /\ x0 = .string c.g /\ x1 = .string c.s /\ x2 = .slice a1 c.n.length c1 /\ x3 = .slice a2 c.l.length c2 /\ c.g.size <= 140737488351232 /\ c.s.size <= 140737488351232 /\ Ax r S w (.slice a1 c.n.length c1) c.n /\ InL r S w m' (.slice a2 c.l.length c2) c.l := by
 obtain ⟨m', nv, lv, hm, e, hg, hs, hn, hl⟩ := h.shape
 simp only [Value.agg.injEq, Array.mk.injEq, List.cons.injEq, and_true] at e
 obtain ⟨rfl, rfl, rfl, rfl⟩ := e
 have hn0 := hn
 have hl0 := hl
 obtain ⟨a1, c1, rfl, -⟩ := hn
 obtain ⟨a2, c2, rfl, -⟩ := hl
 exact ⟨m', a1, c1, a2, c2, hm, rfl, rfl, rfl, rfl, hg, hs, hn0, hl0⟩
end Go.Proofs.YtiijfmdfccdagaaGreatDoor.TBase

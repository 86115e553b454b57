import Derived.Test.YtiijfmdfccdagaaGreatDoorPA01
import Derived.Test.YtiijfmdfccdagaaGreatDoorPA04
open Go.Proofs.Tryz
set_option linter.unusedVariables false
set_option maxRecDepth 20000
set_option maxHeartbeats 3200000
namespace Go.Proofs.YtiijfmdfccdagaaGreatDoor.VOr
open Tak
open Go.RowKit Base VPure VSm VIn
theorem order_c (k1 : Int) (b1 : Bool) (i1 : Int) (s1 : ByteArray) (n1 l1 : Value) (k2 : Int) (b2 : Bool) (i2 : Int) (s2 : ByteArray) (n2 l2 : Value) (w : World) : Calls prog 132 #[vl k1 b1 i1 s1 n1 l1, vl k2 b2 i2 s2 n2 l2] w fun e w' => An w w' e (fun p : Int => .int .i64 p) (ord k1 i1 s1 k2 i2 s2) := by
 obtain ⟨W0, hW0, hs0, hb0, hp, hq⟩ := two2 w #[.int .i64 k1, .bool b1, .int .i64 i1, .string s1, n1, l1] #[.int .i64 k2, .bool b2, .int .i64 i2, .string s2, n2, l2]
 have HP := hid hp
 have HQ := hid hq
 have HB := hid hb0
 have hsD : W0.drew.heap.size = w.heap.size + 2 := by simp [hs0]
 obtain ⟨p0, p1, p2, p3, p4, p5⟩ := six_box hp
 obtain ⟨q0, q1, q2, q3, q4, q5⟩ := six_box hq
 clear hp hq hb0
 have c1 := fun W => integer_c k1 b1 i1 s1 n1 l1 W
 have c2 := fun W => integer_c k2 b2 i2 s2 n2 l2 W
 have cC := fun W => Tryz.cmp_Compare_int i1 i2 W
 have cS := fun W => Tryz.strings_Compare s1 s2 W
 obtain ⟨X, hX⟩ : ∃ X, Lib.compareInt i1 i2 = X := ⟨_, rfl⟩
 obtain ⟨Y, hY⟩ : ∃ Y, Lib.compareBytes s1.data.toList s2.data.toList = Y := ⟨_, rfl⟩
 unfold ord
 rw [hX] at cC ⊢
 rw [hY] at cS ⊢
 clear hX hY
 by_cases h4 : k1 = 4 /\ k2 = 4
 ·rw [if_pos h4]
  obtain ⟨rfl, rfl⟩ := h4
  clear c1 c2 cC
  go_enter func132, ntmps132
  go_wp2_with fail
  try rw [hW0]
  refine (cS _).mono ?_
  rintro e W1 ⟨rfl, rfl⟩
  go_wp2_with fail
  go_ret
  exact ⟨rfl, HB.out⟩
 ·rw [if_neg h4]
  have g4 : (k1 == 4 && k2 == 4) = false := by simp; omega
  clear cS
  by_cases h1 : k1 = 3
  ·rw [if_pos h1] at c1
   rw [if_pos h1]
   have g1 : (k1 == 4) = false := by simp; omega
   by_cases h2 : k2 = 3
   ·rw [if_pos h2] at c2
    rw [if_pos h2]
    clear h1 h2 h4 g4
    go_enter func132, ntmps132
    go_wp2_with fail
    try rw [hW0]
    refine rh12 w.heap.size (w.heap.size + 1) k1 b1 i1 s1 n1 l1 k2 b2 i2 s2 n2 l2 (by kernel_rfl) (by first | assumption | go_keep) (fun hHeld => ?_)
    refine tkH 0 rfl ?_; try simp only [ptH]
    refine tkH 2 rfl ?_; try simp only [ptH]
    refine rdH [1] ?_
    refine alH rfl fun K hK => ?_
    go_simp
    refine (c1 _).mono ?_
    rintro e W1 ⟨rfl, hb1⟩
    have hp1 := (hb1.block w.heap.size (by rw [hsD]; omega)).trans HP.out
    have hq1 := (hb1.block (w.heap.size + 1) (by rw [hsD]; omega)).trans HQ.out
    obtain ⟨x0, x1, x2, x3, x4, x5⟩ := six_box hp1
    obtain ⟨y0, y1, y2, y3, y4, y5⟩ := six_box hq1
    have HB1 := hid (bel_d HB.out hb1)
    have HP1 := hid hp1
    have HQ1 := hid hq1
    have hs1 := hb1.size
    rw [hsD] at hs1
    clear hp1 hq1 hb1
    go_wp2_with fail
    refine hK.out _ _ (by first | assumption | go_keep) (fun hHeld => ?_)
    clear hK K
    try simp only [ptH]
    refine rdH [3] ?_
    refine alH rfl fun K hK => ?_
    go_simp
    refine (c2 _).mono ?_
    rintro e W2 ⟨rfl, hb2⟩
    obtain ⟨z0, z1, z2, z3, z4, z5⟩ := six_box ((hb2.block w.heap.size (by omega)).trans HP1.out)
    obtain ⟨t0, t1, t2, t3, t4, t5⟩ := six_box ((hb2.block (w.heap.size + 1) (by omega)).trans HQ1.out)
    have HB2 := hid (HB1.out.trans (hb2.mono HB1.out.size))
    clear hb2
    go_wp2_with fail
    refine hK.out _ _ (by first | assumption | go_keep) (fun hHeld => ?_)
    clear hK K
    try simp only [ptH]
    refine rdH [4] ?_
    refine alH rfl fun K hK => ?_
    go_simp
    refine (cC _).mono ?_
    rintro e W3 ⟨rfl, rfl⟩
    go_wp2_with fail
    refine hK.out _ _ (by first | assumption | go_keep) (fun hHeld => ?_)
    clear hK K
    try simp only [ptH]
    refine tkH 5 rfl ?_; try simp only [ptH]
    refine dnH ?_
    go_wp2_with fail
    go_ret
    exact ⟨rfl, HB2.out⟩
   ·rw [if_neg h2] at c2
    rw [if_neg h2]
    clear h1 h2 h4 g4
    go_enter func132, ntmps132
    go_wp2_with fail
    try rw [hW0]
    refine rh12 w.heap.size (w.heap.size + 1) k1 b1 i1 s1 n1 l1 k2 b2 i2 s2 n2 l2 (by kernel_rfl) (by first | assumption | go_keep) (fun hHeld => ?_)
    refine tkH 0 rfl ?_; try simp only [ptH]
    refine tkH 2 rfl ?_; try simp only [ptH]
    refine rdH [1] ?_
    refine alH rfl fun K hK => ?_
    go_simp
    refine (c1 _).mono ?_
    rintro e W1 ⟨rfl, hb1⟩
    have hp1 := (hb1.block w.heap.size (by rw [hsD]; omega)).trans HP.out
    have hq1 := (hb1.block (w.heap.size + 1) (by rw [hsD]; omega)).trans HQ.out
    obtain ⟨x0, x1, x2, x3, x4, x5⟩ := six_box hp1
    obtain ⟨y0, y1, y2, y3, y4, y5⟩ := six_box hq1
    have HB1 := hid (bel_d HB.out hb1)
    have HP1 := hid hp1
    have HQ1 := hid hq1
    have hs1 := hb1.size
    rw [hsD] at hs1
    clear hp1 hq1 hb1
    go_wp2_with fail
    refine hK.out _ _ (by first | assumption | go_keep) (fun hHeld => ?_)
    clear hK K
    try simp only [ptH]
    refine rdH [3] ?_
    refine alH rfl fun K hK => ?_
    go_simp
    refine (c2 _).mono ?_
    rintro e W2 ⟨rfl, hb2⟩
    exact ⟨rfl, rfl, HB1.out.trans (hb2.mono HB1.out.size)⟩
  ·rw [if_neg h1] at c1
   rw [if_neg h1]
   by_cases g : k1 = 4
   ·have g1 : (k1 == 4) = true := by simp [g]
    have g2 : (k2 == 4) = false := by simp; omega
    clear h1 h4 g4 g
    go_enter func132, ntmps132
    go_wp2_with fail
    try rw [hW0]
    refine rh12 w.heap.size (w.heap.size + 1) k1 b1 i1 s1 n1 l1 k2 b2 i2 s2 n2 l2 (by kernel_rfl) (by first | assumption | go_keep) (fun hHeld => ?_)
    refine tkH 0 rfl ?_; try simp only [ptH]
    refine tkH 2 rfl ?_; try simp only [ptH]
    refine rdH [1] ?_
    refine alH rfl fun K hK => ?_
    go_simp
    refine (c1 _).mono ?_
    rintro e W1 ⟨rfl, hb1⟩
    exact ⟨rfl, rfl, bel_d HB.out hb1⟩
   ·have g1 : (k1 == 4) = false := by simp; omega
    clear h1 h4 g4 g
    go_enter func132, ntmps132
    go_wp2_with fail
    try rw [hW0]
    refine rh12 w.heap.size (w.heap.size + 1) k1 b1 i1 s1 n1 l1 k2 b2 i2 s2 n2 l2 (by kernel_rfl) (by first | assumption | go_keep) (fun hHeld => ?_)
    refine tkH 0 rfl ?_; try simp only [ptH]
    refine tkH 2 rfl ?_; try simp only [ptH]
    refine rdH [1] ?_
    refine alH rfl fun K hK => ?_
    go_simp
    refine (c1 _).mono ?_
    rintro e W1 ⟨rfl, hb1⟩
    exact ⟨rfl, rfl, bel_d HB.out hb1⟩
end Go.Proofs.YtiijfmdfccdagaaGreatDoor.VOr
namespace Go.Proofs.YtiijfmdfccdagaaGreatDoor.VPo
open Go.RowKit Base VPure VSm VEx VOr
theorem pair_Less (k1 : Int) (b1 : Bool) (i1 : Int) (s1 : ByteArray) (n1 l1 : Value) (k2 : Int) (b2 : Bool) (i2 : Int) (s2 : ByteArray) (n2 l2 : Value) (w : World) :
  Calls prog 94 #[.int .i64 23, vl k1 b1 i1 s1 n1 l1, vl k2 b2 i2 s2 n2 l2] w fun e w' => An w w' e (fun c : Bool => v0 2 c 0 ⟨#[]⟩) (bnd (ord k1 i1 s1 k2 i2 s2) fun c => .ok (decide (c < 0))) := by
 obtain ⟨W0, hW0, hs0, hb0, hp, hq, hr⟩ := two3 w #[.int .i64 k1, .bool b1, .int .i64 i1, .string s1, n1, l1] #[.int .i64 k2, .bool b2, .int .i64 i2, .string s2, n2, l2]
 have HR := hid hr
 have HB := hid hb0
 obtain ⟨p0, p1, p2, p3, p4, p5⟩ := six_box hp
 obtain ⟨q0, q1, q2, q3, q4, q5⟩ := six_box hq
 have cI := order_c k1 b1 i1 s1 n1 l1 k2 b2 i2 s2 n2 l2 W0
 obtain ⟨U, hU⟩ : ∃ U, ord k1 i1 s1 k2 i2 s2 = U := ⟨_, rfl⟩
 rw [hU] at cI ⊢
 clear hp hq hb0 hr hU
 go_enter func94, ntmps94
 go_upto_if 39 with fail
 refine wp_cond_true (by rfl) ?_
 refine wp_exit ?_
 repeat (first | (with_reducible refine ex_then ?_) | (with_reducible refine ex_skip (by decide) ?_))
 refine ex_hit ?_
 refine ex_norm ?_
 apply_assumption
 refine wp_mono (Q := Out ?outB) ?outM (out_mono ?outR ?outP)
 case outR => intro a w h; (repeat (first | (with_reducible refine rt_then ?_) | (with_reducible refine rt_blk ?_))); exact h
 case outP => intro c a w h; (repeat (first | (with_reducible refine pn_then ?_) | (with_reducible refine pn_blk ?_))); exact h
 try simp only [hW0]
 go_wp2_with fail
 try rw [hW0]
 refine cI.mono ?_
 intro e W1 hA
 clear cI
 cases U with
 | error c =>
  obtain ⟨rfl, hb1⟩ := hA
  exact ⟨rfl, rfl, HB.out.trans (hb1.mono HB.out.size)⟩
 | ok c =>
  obtain ⟨rfl, hb1⟩ := hA
  have HR1 := hid ((hb1.block (w.heap.size + 2) (by omega)).trans HR.out)
  have hs1 := hb1.size
  have HB1 := hid (HB.out.trans (hb1.mono HB.out.size))
  clear hb1 HR HB p0 p1 p2 p3 p4 p5 q0 q1 q2 q3 q4 q5
  obtain ⟨B, hB⟩ : ∃ B, decide (c < 0) = B := ⟨_, rfl⟩
  have cT := truth_c B
  go_wp2_with fail
  refine (cT _).mono ?_
  rintro e W2 ⟨rfl, hb2⟩
  clear cT
  have hr := (hb2.block (w.heap.size + 2) (by omega)).trans HR1.out
  have HB2 := hid (HB1.out.trans (hb2.mono HB1.out.size))
  clear hb2 HB1 HR1
  obtain ⟨r0, r1, r2, r3, r4, r5⟩ := six_box hr
  obtain ⟨rf0, rf1, rf2, rf3, rf4, rf5⟩ := Base.frz6 hr
  go_wp2_with fail
  obtain ⟨W9, hW9⟩ := stc6 W2 (w.heap.size + 2) (.int .i64 2) (.bool B) (.int .i64 0) (.string ⟨#[]⟩) (.slice none 0 0) (.slice none 0 0)
  rw [hW9]
  obtain ⟨q1, q2, q3, q4⟩ := set6 _ _ _ _ _ _ hr hW9
  first | refine out_ret (results_cell_row rfl _ W9 (w.heap.size + 2) 26 _ (0, 0) _ rfl q1 underlying26 rfl (by kernel_rfl)) rfl ?_ | refine bodyPost_ret (results_cell_row rfl _ W9 (w.heap.size + 2) 26 _ (0, 0) _ rfl q1 underlying26 rfl (by kernel_rfl)) rfl ?_
  try subst hB
  exact ⟨rfl, q4 _ _ (by omega) HB2.out⟩
theorem pair_Most (k1 : Int) (b1 : Bool) (i1 : Int) (s1 : ByteArray) (n1 l1 : Value) (k2 : Int) (b2 : Bool) (i2 : Int) (s2 : ByteArray) (n2 l2 : Value) (w : World) :
  Calls prog 94 #[.int .i64 24, vl k1 b1 i1 s1 n1 l1, vl k2 b2 i2 s2 n2 l2] w fun e w' => An w w' e (fun c : Bool => v0 2 c 0 ⟨#[]⟩) (bnd (ord k1 i1 s1 k2 i2 s2) fun c => .ok (decide (c <= 0))) := by
 obtain ⟨W0, hW0, hs0, hb0, hp, hq, hr⟩ := two3 w #[.int .i64 k1, .bool b1, .int .i64 i1, .string s1, n1, l1] #[.int .i64 k2, .bool b2, .int .i64 i2, .string s2, n2, l2]
 have HR := hid hr
 have HB := hid hb0
 obtain ⟨p0, p1, p2, p3, p4, p5⟩ := six_box hp
 obtain ⟨q0, q1, q2, q3, q4, q5⟩ := six_box hq
 have cI := order_c k1 b1 i1 s1 n1 l1 k2 b2 i2 s2 n2 l2 W0
 obtain ⟨U, hU⟩ : ∃ U, ord k1 i1 s1 k2 i2 s2 = U := ⟨_, rfl⟩
 rw [hU] at cI ⊢
 clear hp hq hb0 hr hU
 go_enter func94, ntmps94
 go_upto_if 43 with fail
 refine wp_cond_true (by rfl) ?_
 refine wp_exit ?_
 repeat (first | (with_reducible refine ex_then ?_) | (with_reducible refine ex_skip (by decide) ?_))
 refine ex_hit ?_
 refine ex_norm ?_
 apply_assumption
 refine wp_mono (Q := Out ?outB) ?outM (out_mono ?outR ?outP)
 case outR => intro a w h; (repeat (first | (with_reducible refine rt_then ?_) | (with_reducible refine rt_blk ?_))); exact h
 case outP => intro c a w h; (repeat (first | (with_reducible refine pn_then ?_) | (with_reducible refine pn_blk ?_))); exact h
 try simp only [hW0]
 go_wp2_with fail
 try rw [hW0]
 refine cI.mono ?_
 intro e W1 hA
 clear cI
 cases U with
 | error c =>
  obtain ⟨rfl, hb1⟩ := hA
  exact ⟨rfl, rfl, HB.out.trans (hb1.mono HB.out.size)⟩
 | ok c =>
  obtain ⟨rfl, hb1⟩ := hA
  have HR1 := hid ((hb1.block (w.heap.size + 2) (by omega)).trans HR.out)
  have hs1 := hb1.size
  have HB1 := hid (HB.out.trans (hb1.mono HB.out.size))
  clear hb1 HR HB p0 p1 p2 p3 p4 p5 q0 q1 q2 q3 q4 q5
  obtain ⟨B, hB⟩ : ∃ B, decide (c <= 0) = B := ⟨_, rfl⟩
  have cT := truth_c B
  go_wp2_with fail
  refine (cT _).mono ?_
  rintro e W2 ⟨rfl, hb2⟩
  clear cT
  have hr := (hb2.block (w.heap.size + 2) (by omega)).trans HR1.out
  have HB2 := hid (HB1.out.trans (hb2.mono HB1.out.size))
  clear hb2 HB1 HR1
  obtain ⟨r0, r1, r2, r3, r4, r5⟩ := six_box hr
  obtain ⟨rf0, rf1, rf2, rf3, rf4, rf5⟩ := Base.frz6 hr
  go_wp2_with fail
  obtain ⟨W9, hW9⟩ := stc6 W2 (w.heap.size + 2) (.int .i64 2) (.bool B) (.int .i64 0) (.string ⟨#[]⟩) (.slice none 0 0) (.slice none 0 0)
  rw [hW9]
  obtain ⟨q1, q2, q3, q4⟩ := set6 _ _ _ _ _ _ hr hW9
  first | refine out_ret (results_cell_row rfl _ W9 (w.heap.size + 2) 26 _ (0, 0) _ rfl q1 underlying26 rfl (by kernel_rfl)) rfl ?_ | refine bodyPost_ret (results_cell_row rfl _ W9 (w.heap.size + 2) 26 _ (0, 0) _ rfl q1 underlying26 rfl (by kernel_rfl)) rfl ?_
  try subst hB
  exact ⟨rfl, q4 _ _ (by omega) HB2.out⟩
end Go.Proofs.YtiijfmdfccdagaaGreatDoor.VPo
namespace Go.Proofs.YtiijfmdfccdagaaGreatDoor.VPq
open Go.RowKit Base VPure VSm VEx VOr
theorem pair_More (k1 : Int) (b1 : Bool) (i1 : Int) (s1 : ByteArray) (an1 : Option Addr) (ln1 cn1 : Nat) (al1 : Option Addr) (ll1 cl1 : Nat) (k2 : Int) (b2 : Bool) (i2 : Int) (s2 : ByteArray) (an2 : Option Addr) (ln2 cn2 : Nat) (al2 : Option Addr) (ll2 cl2 : Nat) (w : World) :
  Calls prog 94 #[.int .i64 25, vl k1 b1 i1 s1 (.slice an1 ln1 cn1) (.slice al1 ll1 cl1), vl k2 b2 i2 s2 (.slice an2 ln2 cn2) (.slice al2 ll2 cl2)] w fun e w' => An w w' e (fun c : Bool => v0 2 c 0 ⟨#[]⟩) (bnd (ord k2 i2 s2 k1 i1 s1) fun c => .ok (decide (c < 0))) := by
 obtain ⟨W0, hW0, hs0, hb0, hp, hq, hr⟩ := two3 w #[.int .i64 k1, .bool b1, .int .i64 i1, .string s1, (.slice an1 ln1 cn1), (.slice al1 ll1 cl1)] #[.int .i64 k2, .bool b2, .int .i64 i2, .string s2, (.slice an2 ln2 cn2), (.slice al2 ll2 cl2)]
 have HR := hid hr
 have HB := hid hb0
 obtain ⟨p0, p1, p2, p3, p4, p5⟩ := six_box hp
 obtain ⟨q0, q1, q2, q3, q4, q5⟩ := six_box hq
 obtain ⟨pf0, pf1, pf2, pf3, pf4, pf5⟩ := Base.frz6 hp
 obtain ⟨V1, hV1⟩ := stc6 W0 w.heap.size (.int .i64 k2) (.bool b2) (.int .i64 i2) (.string s2) (.slice an2 ln2 cn2) (.slice al2 ll2 cl2)
 obtain ⟨a1, a2, a3, a4⟩ := set6 _ _ _ _ _ _ hp hV1
 have hq1 := (a2 (w.heap.size + 1) (by omega)).trans hq
 obtain ⟨qf0, qf1, qf2, qf3, qf4, qf5⟩ := Base.frz6 hq1
 obtain ⟨y0, y1, y2, y3, y4, y5⟩ := six_box hq1
 obtain ⟨V2, hV2⟩ := stc6 V1 (w.heap.size + 1) (.int .i64 k1) (.bool b1) (.int .i64 i1) (.string s1) (.slice an1 ln1 cn1) (.slice al1 ll1 cl1)
 obtain ⟨c1, c2, c3, c4⟩ := set6 _ _ _ _ _ _ hq1 hV2
 have hp2 := (c2 w.heap.size (by omega)).trans a1
 obtain ⟨x0, x1, x2, x3, x4, x5⟩ := six_box hp2
 obtain ⟨z0, z1, z2, z3, z4, z5⟩ := six_box c1
 have HR2 := hid ((c2 _ (by omega)).trans ((a2 _ (by omega)).trans hr))
 have hbv : Below w.heap.size w V2 := c4 _ _ (by omega) (a4 _ _ (Nat.le_refl _) hb0)
 have HBV := hid hbv
 have hsv : V2.heap.size = w.heap.size + 3 := by rw [<- hV2, <- hV1]; simp [hs0]
 clear a1 a2 a3 a4 c1 c2 c3 c4 hq1 hp2 hbv HR HB
 have HR := HR2
 have HB := HBV
 clear HR2 HBV
 have cI := order_c k2 b2 i2 s2 (.slice an2 ln2 cn2) (.slice al2 ll2 cl2) k1 b1 i1 s1 (.slice an1 ln1 cn1) (.slice al1 ll1 cl1) V2
 obtain ⟨U, hU⟩ : ∃ U, ord k2 i2 s2 k1 i1 s1 = U := ⟨_, rfl⟩
 rw [hU] at cI ⊢
 clear hp hq hb0 hr hU
 go_enter func94, ntmps94
 go_upto_if 37 with fail
 refine wp_cond_true (by rfl) ?_
 refine wp_exit ?_
 repeat (first | (with_reducible refine ex_then ?_) | (with_reducible refine ex_skip (by decide) ?_))
 refine ex_hit ?_
 refine ex_norm ?_
 apply_assumption
 try simp only [hW0]
 go_upto_region 36 with fail
 go_wp2_with fail
 try rw [hW0]
 try rw [hV1]
 try rw [hV2]
 refine cI.mono ?_
 intro e W1 hA
 clear cI
 cases U with
 | error c =>
  obtain ⟨rfl, hb1⟩ := hA
  exact ⟨rfl, rfl, HB.out.trans (hb1.mono HB.out.size)⟩
 | ok c =>
  obtain ⟨rfl, hb1⟩ := hA
  have HR1 := hid ((hb1.block (w.heap.size + 2) (by omega)).trans HR.out)
  have hs1 := hb1.size
  have HB1 := hid (HB.out.trans (hb1.mono HB.out.size))
  clear hb1 HR HB p0 p1 p2 p3 p4 p5 q0 q1 q2 q3 q4 q5 x0 x1 x2 x3 x4 x5 y0 y1 y2 y3 y4 y5 z0 z1 z2 z3 z4 z5 pf0 pf1 pf2 pf3 pf4 pf5 qf0 qf1 qf2 qf3 qf4 qf5
  obtain ⟨B, hB⟩ : ∃ B, decide (c < 0) = B := ⟨_, rfl⟩
  have cT := truth_c B
  go_wp2_with fail
  refine (cT _).mono ?_
  rintro e W2 ⟨rfl, hb2⟩
  clear cT
  have hr := (hb2.block (w.heap.size + 2) (by omega)).trans HR1.out
  have HB2 := hid (HB1.out.trans (hb2.mono HB1.out.size))
  clear hb2 HB1 HR1
  obtain ⟨r0, r1, r2, r3, r4, r5⟩ := six_box hr
  obtain ⟨rf0, rf1, rf2, rf3, rf4, rf5⟩ := Base.frz6 hr
  go_wp2_with fail
  obtain ⟨W9, hW9⟩ := stc6 W2 (w.heap.size + 2) (.int .i64 2) (.bool B) (.int .i64 0) (.string ⟨#[]⟩) (.slice none 0 0) (.slice none 0 0)
  rw [hW9]
  obtain ⟨q1, q2, q3, q4⟩ := set6 _ _ _ _ _ _ hr hW9
  first | refine out_ret (results_cell_row rfl _ W9 (w.heap.size + 2) 26 _ (0, 0) _ rfl q1 underlying26 rfl (by kernel_rfl)) rfl ?_ | refine bodyPost_ret (results_cell_row rfl _ W9 (w.heap.size + 2) 26 _ (0, 0) _ rfl q1 underlying26 rfl (by kernel_rfl)) rfl ?_
  try subst hB
  exact ⟨rfl, q4 _ _ (by omega) HB2.out⟩
theorem pair_Least (k1 : Int) (b1 : Bool) (i1 : Int) (s1 : ByteArray) (an1 : Option Addr) (ln1 cn1 : Nat) (al1 : Option Addr) (ll1 cl1 : Nat) (k2 : Int) (b2 : Bool) (i2 : Int) (s2 : ByteArray) (an2 : Option Addr) (ln2 cn2 : Nat) (al2 : Option Addr) (ll2 cl2 : Nat) (w : World) :
  Calls prog 94 #[.int .i64 26, vl k1 b1 i1 s1 (.slice an1 ln1 cn1) (.slice al1 ll1 cl1), vl k2 b2 i2 s2 (.slice an2 ln2 cn2) (.slice al2 ll2 cl2)] w fun e w' => An w w' e (fun c : Bool => v0 2 c 0 ⟨#[]⟩) (bnd (ord k2 i2 s2 k1 i1 s1) fun c => .ok (decide (c <= 0))) := by
 obtain ⟨W0, hW0, hs0, hb0, hp, hq, hr⟩ := two3 w #[.int .i64 k1, .bool b1, .int .i64 i1, .string s1, (.slice an1 ln1 cn1), (.slice al1 ll1 cl1)] #[.int .i64 k2, .bool b2, .int .i64 i2, .string s2, (.slice an2 ln2 cn2), (.slice al2 ll2 cl2)]
 have HR := hid hr
 have HB := hid hb0
 obtain ⟨p0, p1, p2, p3, p4, p5⟩ := six_box hp
 obtain ⟨q0, q1, q2, q3, q4, q5⟩ := six_box hq
 obtain ⟨pf0, pf1, pf2, pf3, pf4, pf5⟩ := Base.frz6 hp
 obtain ⟨V1, hV1⟩ := stc6 W0 w.heap.size (.int .i64 k2) (.bool b2) (.int .i64 i2) (.string s2) (.slice an2 ln2 cn2) (.slice al2 ll2 cl2)
 obtain ⟨a1, a2, a3, a4⟩ := set6 _ _ _ _ _ _ hp hV1
 have hq1 := (a2 (w.heap.size + 1) (by omega)).trans hq
 obtain ⟨qf0, qf1, qf2, qf3, qf4, qf5⟩ := Base.frz6 hq1
 obtain ⟨y0, y1, y2, y3, y4, y5⟩ := six_box hq1
 obtain ⟨V2, hV2⟩ := stc6 V1 (w.heap.size + 1) (.int .i64 k1) (.bool b1) (.int .i64 i1) (.string s1) (.slice an1 ln1 cn1) (.slice al1 ll1 cl1)
 obtain ⟨c1, c2, c3, c4⟩ := set6 _ _ _ _ _ _ hq1 hV2
 have hp2 := (c2 w.heap.size (by omega)).trans a1
 obtain ⟨x0, x1, x2, x3, x4, x5⟩ := six_box hp2
 obtain ⟨z0, z1, z2, z3, z4, z5⟩ := six_box c1
 have HR2 := hid ((c2 _ (by omega)).trans ((a2 _ (by omega)).trans hr))
 have hbv : Below w.heap.size w V2 := c4 _ _ (by omega) (a4 _ _ (Nat.le_refl _) hb0)
 have HBV := hid hbv
 have hsv : V2.heap.size = w.heap.size + 3 := by rw [<- hV2, <- hV1]; simp [hs0]
 clear a1 a2 a3 a4 c1 c2 c3 c4 hq1 hp2 hbv HR HB
 have HR := HR2
 have HB := HBV
 clear HR2 HBV
 have cI := order_c k2 b2 i2 s2 (.slice an2 ln2 cn2) (.slice al2 ll2 cl2) k1 b1 i1 s1 (.slice an1 ln1 cn1) (.slice al1 ll1 cl1) V2
 obtain ⟨U, hU⟩ : ∃ U, ord k2 i2 s2 k1 i1 s1 = U := ⟨_, rfl⟩
 rw [hU] at cI ⊢
 clear hp hq hb0 hr hU
 go_enter func94, ntmps94
 go_upto_if 41 with fail
 refine wp_cond_true (by rfl) ?_
 refine wp_exit ?_
 repeat (first | (with_reducible refine ex_then ?_) | (with_reducible refine ex_skip (by decide) ?_))
 refine ex_hit ?_
 refine ex_norm ?_
 apply_assumption
 try simp only [hW0]
 go_upto_region 38 with fail
 go_wp2_with fail
 try rw [hW0]
 try rw [hV1]
 try rw [hV2]
 refine cI.mono ?_
 intro e W1 hA
 clear cI
 cases U with
 | error c =>
  obtain ⟨rfl, hb1⟩ := hA
  exact ⟨rfl, rfl, HB.out.trans (hb1.mono HB.out.size)⟩
 | ok c =>
  obtain ⟨rfl, hb1⟩ := hA
  have HR1 := hid ((hb1.block (w.heap.size + 2) (by omega)).trans HR.out)
  have hs1 := hb1.size
  have HB1 := hid (HB.out.trans (hb1.mono HB.out.size))
  clear hb1 HR HB p0 p1 p2 p3 p4 p5 q0 q1 q2 q3 q4 q5 x0 x1 x2 x3 x4 x5 y0 y1 y2 y3 y4 y5 z0 z1 z2 z3 z4 z5 pf0 pf1 pf2 pf3 pf4 pf5 qf0 qf1 qf2 qf3 qf4 qf5
  obtain ⟨B, hB⟩ : ∃ B, decide (c <= 0) = B := ⟨_, rfl⟩
  have cT := truth_c B
  go_wp2_with fail
  refine (cT _).mono ?_
  rintro e W2 ⟨rfl, hb2⟩
  clear cT
  have hr := (hb2.block (w.heap.size + 2) (by omega)).trans HR1.out
  have HB2 := hid (HB1.out.trans (hb2.mono HB1.out.size))
  clear hb2 HB1 HR1
  obtain ⟨r0, r1, r2, r3, r4, r5⟩ := six_box hr
  obtain ⟨rf0, rf1, rf2, rf3, rf4, rf5⟩ := Base.frz6 hr
  go_wp2_with fail
  obtain ⟨W9, hW9⟩ := stc6 W2 (w.heap.size + 2) (.int .i64 2) (.bool B) (.int .i64 0) (.string ⟨#[]⟩) (.slice none 0 0) (.slice none 0 0)
  rw [hW9]
  obtain ⟨q1, q2, q3, q4⟩ := set6 _ _ _ _ _ _ hr hW9
  first | refine out_ret (results_cell_row rfl _ W9 (w.heap.size + 2) 26 _ (0, 0) _ rfl q1 underlying26 rfl (by kernel_rfl)) rfl ?_ | refine bodyPost_ret (results_cell_row rfl _ W9 (w.heap.size + 2) 26 _ (0, 0) _ rfl q1 underlying26 rfl (by kernel_rfl)) rfl ?_
  try subst hB
  exact ⟨rfl, q4 _ _ (by omega) HB2.out⟩
end Go.Proofs.YtiijfmdfccdagaaGreatDoor.VPq
namespace Go.Proofs.YtiijfmdfccdagaaGreatDoor.VPs
open Go.RowKit Base VSm VEx
theorem pair_Same (k1 : Int) (b1 : Bool) (i1 : Int) (s1 : ByteArray) (n1 l1 : Value) (k2 : Int) (b2 : Bool) (i2 : Int) (s2 : ByteArray) (n2 l2 : Value) (w : World) (S : Bool) (cS : ∀ W : World, Below w.heap.size w W -> Calls prog 22 #[vl k1 b1 i1 s1 n1 l1, vl k2 b2 i2 s2 n2 l2] W fun e w' => e = .returned (.bool S) /\ Below W.heap.size W w') :
  Calls prog 94 #[.int .i64 27, vl k1 b1 i1 s1 n1 l1, vl k2 b2 i2 s2 n2 l2] w fun e w' => e = .returned (v0 2 (S) 0 ⟨#[]⟩) /\ Below w.heap.size w w' := by
 obtain ⟨W0, hW0, hs0, hb0, hp, hq, hr⟩ := two3 w #[.int .i64 k1, .bool b1, .int .i64 i1, .string s1, n1, l1] #[.int .i64 k2, .bool b2, .int .i64 i2, .string s2, n2, l2]
 have HR := hid hr
 have HB := hid hb0
 obtain ⟨p0, p1, p2, p3, p4, p5⟩ := six_box hp
 obtain ⟨q0, q1, q2, q3, q4, q5⟩ := six_box hq
 have cI := cS W0 hb0
 clear hp hq hb0 hr cS
 have cT := truth_c
 cases S with
 | false =>
  go_enter func94, ntmps94
  go_upto_if 43 with fail
  refine wp_cond_false (by rfl) ?_
  refine wp_skip ?_
  refine ex_norm ?_
  apply_assumption
  refine wp_exit ?_
  repeat (first | (with_reducible refine ex_then ?_) | (with_reducible refine ex_skip (by decide) ?_))
  refine ex_hit ?_
  try (refine ex_norm ?_)
  apply_assumption
  try simp only [hW0]
  go_wp2_with fail
  try rw [hW0]
  refine cI.mono ?_
  rintro e W1 ⟨rfl, hb1⟩
  clear cI
  have HR1 := hid ((hb1.block (w.heap.size + 2) (by omega)).trans HR.out)
  have hs1 := hb1.size
  have HB1 := hid (HB.out.trans (hb1.mono HB.out.size))
  clear hb1 HR HB p0 p1 p2 p3 p4 p5 q0 q1 q2 q3 q4 q5
  go_wp2_with fail
  refine (cT _ _).mono ?_
  rintro e W2 ⟨rfl, hb2⟩
  clear cT
  have hr := (hb2.block (w.heap.size + 2) (by omega)).trans HR1.out
  have HB2 := hid (HB1.out.trans (hb2.mono HB1.out.size))
  clear hb2 HB1 HR1
  obtain ⟨r0, r1, r2, r3, r4, r5⟩ := six_box hr
  obtain ⟨rf0, rf1, rf2, rf3, rf4, rf5⟩ := Base.frz6 hr
  go_wp2_with fail
  obtain ⟨W9, hW9⟩ := stc6 W2 (w.heap.size + 2) (.int .i64 2) (.bool false) (.int .i64 0) (.string ⟨#[]⟩) (.slice none 0 0) (.slice none 0 0)
  rw [hW9]
  obtain ⟨q1, q2, q3, q4⟩ := set6 _ _ _ _ _ _ hr hW9
  refine bodyPost_ret (results_cell_row rfl _ W9 (w.heap.size + 2) 26 _ (0, 0) _ rfl q1 underlying26 rfl (by kernel_rfl)) rfl ?_
  try subst hB
  exact ⟨rfl, q4 _ _ (by omega) HB2.out⟩
 | true =>
  go_enter func94, ntmps94
  go_upto_if 43 with fail
  refine wp_cond_false (by rfl) ?_
  refine wp_skip ?_
  refine ex_norm ?_
  apply_assumption
  refine wp_exit ?_
  repeat (first | (with_reducible refine ex_then ?_) | (with_reducible refine ex_skip (by decide) ?_))
  refine ex_hit ?_
  try (refine ex_norm ?_)
  apply_assumption
  try simp only [hW0]
  go_wp2_with fail
  try rw [hW0]
  refine cI.mono ?_
  rintro e W1 ⟨rfl, hb1⟩
  clear cI
  have HR1 := hid ((hb1.block (w.heap.size + 2) (by omega)).trans HR.out)
  have hs1 := hb1.size
  have HB1 := hid (HB.out.trans (hb1.mono HB.out.size))
  clear hb1 HR HB p0 p1 p2 p3 p4 p5 q0 q1 q2 q3 q4 q5
  go_wp2_with fail
  refine (cT _ _).mono ?_
  rintro e W2 ⟨rfl, hb2⟩
  clear cT
  have hr := (hb2.block (w.heap.size + 2) (by omega)).trans HR1.out
  have HB2 := hid (HB1.out.trans (hb2.mono HB1.out.size))
  clear hb2 HB1 HR1
  obtain ⟨r0, r1, r2, r3, r4, r5⟩ := six_box hr
  obtain ⟨rf0, rf1, rf2, rf3, rf4, rf5⟩ := Base.frz6 hr
  go_wp2_with fail
  obtain ⟨W9, hW9⟩ := stc6 W2 (w.heap.size + 2) (.int .i64 2) (.bool true) (.int .i64 0) (.string ⟨#[]⟩) (.slice none 0 0) (.slice none 0 0)
  rw [hW9]
  obtain ⟨q1, q2, q3, q4⟩ := set6 _ _ _ _ _ _ hr hW9
  refine bodyPost_ret (results_cell_row rfl _ W9 (w.heap.size + 2) 26 _ (0, 0) _ rfl q1 underlying26 rfl (by kernel_rfl)) rfl ?_
  try subst hB
  exact ⟨rfl, q4 _ _ (by omega) HB2.out⟩
theorem pair_Other (k1 : Int) (b1 : Bool) (i1 : Int) (s1 : ByteArray) (n1 l1 : Value) (k2 : Int) (b2 : Bool) (i2 : Int) (s2 : ByteArray) (n2 l2 : Value) (w : World) (S : Bool) (cS : ∀ W : World, Below w.heap.size w W -> Calls prog 22 #[vl k1 b1 i1 s1 n1 l1, vl k2 b2 i2 s2 n2 l2] W fun e w' => e = .returned (.bool S) /\ Below W.heap.size W w') :
  Calls prog 94 #[.int .i64 28, vl k1 b1 i1 s1 n1 l1, vl k2 b2 i2 s2 n2 l2] w fun e w' => e = .returned (v0 2 (!S) 0 ⟨#[]⟩) /\ Below w.heap.size w w' := by
 obtain ⟨W0, hW0, hs0, hb0, hp, hq, hr⟩ := two3 w #[.int .i64 k1, .bool b1, .int .i64 i1, .string s1, n1, l1] #[.int .i64 k2, .bool b2, .int .i64 i2, .string s2, n2, l2]
 have HR := hid hr
 have HB := hid hb0
 obtain ⟨p0, p1, p2, p3, p4, p5⟩ := six_box hp
 obtain ⟨q0, q1, q2, q3, q4, q5⟩ := six_box hq
 have cI := cS W0 hb0
 clear hp hq hb0 hr cS
 have cT := truth_c
 cases S with
 | false =>
  go_enter func94, ntmps94
  go_upto_if 43 with fail
  refine wp_cond_false (by rfl) ?_
  refine wp_skip ?_
  refine ex_norm ?_
  apply_assumption
  refine wp_exit ?_
  repeat (first | (with_reducible refine ex_then ?_) | (with_reducible refine ex_skip (by decide) ?_))
  refine ex_hit ?_
  try (refine ex_norm ?_)
  apply_assumption
  try simp only [hW0]
  go_wp2_with fail
  try rw [hW0]
  refine cI.mono ?_
  rintro e W1 ⟨rfl, hb1⟩
  clear cI
  have HR1 := hid ((hb1.block (w.heap.size + 2) (by omega)).trans HR.out)
  have hs1 := hb1.size
  have HB1 := hid (HB.out.trans (hb1.mono HB.out.size))
  clear hb1 HR HB p0 p1 p2 p3 p4 p5 q0 q1 q2 q3 q4 q5
  go_wp2_with fail
  refine (cT _ _).mono ?_
  rintro e W2 ⟨rfl, hb2⟩
  clear cT
  have hr := (hb2.block (w.heap.size + 2) (by omega)).trans HR1.out
  have HB2 := hid (HB1.out.trans (hb2.mono HB1.out.size))
  clear hb2 HB1 HR1
  obtain ⟨r0, r1, r2, r3, r4, r5⟩ := six_box hr
  obtain ⟨rf0, rf1, rf2, rf3, rf4, rf5⟩ := Base.frz6 hr
  go_wp2_with fail
  obtain ⟨W9, hW9⟩ := stc6 W2 (w.heap.size + 2) (.int .i64 2) (.bool true) (.int .i64 0) (.string ⟨#[]⟩) (.slice none 0 0) (.slice none 0 0)
  rw [hW9]
  obtain ⟨q1, q2, q3, q4⟩ := set6 _ _ _ _ _ _ hr hW9
  refine bodyPost_ret (results_cell_row rfl _ W9 (w.heap.size + 2) 26 _ (0, 0) _ rfl q1 underlying26 rfl (by kernel_rfl)) rfl ?_
  try subst hB
  exact ⟨rfl, q4 _ _ (by omega) HB2.out⟩
 | true =>
  go_enter func94, ntmps94
  go_upto_if 43 with fail
  refine wp_cond_false (by rfl) ?_
  refine wp_skip ?_
  refine ex_norm ?_
  apply_assumption
  refine wp_exit ?_
  repeat (first | (with_reducible refine ex_then ?_) | (with_reducible refine ex_skip (by decide) ?_))
  refine ex_hit ?_
  try (refine ex_norm ?_)
  apply_assumption
  try simp only [hW0]
  go_wp2_with fail
  try rw [hW0]
  refine cI.mono ?_
  rintro e W1 ⟨rfl, hb1⟩
  clear cI
  have HR1 := hid ((hb1.block (w.heap.size + 2) (by omega)).trans HR.out)
  have hs1 := hb1.size
  have HB1 := hid (HB.out.trans (hb1.mono HB.out.size))
  clear hb1 HR HB p0 p1 p2 p3 p4 p5 q0 q1 q2 q3 q4 q5
  go_wp2_with fail
  refine (cT _ _).mono ?_
  rintro e W2 ⟨rfl, hb2⟩
  clear cT
  have hr := (hb2.block (w.heap.size + 2) (by omega)).trans HR1.out
  have HB2 := hid (HB1.out.trans (hb2.mono HB1.out.size))
  clear hb2 HB1 HR1
  obtain ⟨r0, r1, r2, r3, r4, r5⟩ := six_box hr
  obtain ⟨rf0, rf1, rf2, rf3, rf4, rf5⟩ := Base.frz6 hr
  go_wp2_with fail
  obtain ⟨W9, hW9⟩ := stc6 W2 (w.heap.size + 2) (.int .i64 2) (.bool false) (.int .i64 0) (.string ⟨#[]⟩) (.slice none 0 0) (.slice none 0 0)
  rw [hW9]
  obtain ⟨q1, q2, q3, q4⟩ := set6 _ _ _ _ _ _ hr hW9
  refine bodyPost_ret (results_cell_row rfl _ W9 (w.heap.size + 2) 26 _ (0, 0) _ rfl q1 underlying26 rfl (by kernel_rfl)) rfl ?_
  try subst hB
  exact ⟨rfl, q4 _ _ (by omega) HB2.out⟩
end Go.Proofs.YtiijfmdfccdagaaGreatDoor.VPs

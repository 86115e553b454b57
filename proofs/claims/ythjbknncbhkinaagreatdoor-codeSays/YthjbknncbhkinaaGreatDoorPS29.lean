import Derived.Test.YthjbknncbhkinaaGreatDoorPS14
import Derived.Test.YthjbknncbhkinaaGreatDoorPS15
import Derived.Test.YthjbknncbhkinaaGreatDoorPS19
open Go.Proofs.Tryz
set_option linter.unusedVariables false
set_option maxRecDepth 20000
set_option maxHeartbeats 3200000
namespace Go.Proofs.YthjbknncbhkinaaGreatDoor.MSf
open Go.RowKit Base VSm VRs MBx MSe
open VPure
theorem second_num {K m : Nat} {w : World} {M : Nat} {tv sv pv : Value} {p : List C} (h : Mc K (m + 1) w M tv sv pv p) {a : Int} (ha : -9223372036854775808 <= a /\ a <= 9223372036854775807) :
  Calls prog 102 #[ptr M, .agg #[.int .i64 9, .int .i64 a]] w fun e w' => SR K (m + 1) M tv sv pv w (intC a) p e w' := by
 obtain ⟨W0, hW0, s0, b0, x0, y0⟩ := boxes w (.int .i64 9) (.int .i64 a)
 obtain ⟨i0, i1⟩ := two_box x0
 have cN := number_c a W0
 have hin0 : ∀ W, Base.In false (fun b => b < K) W (m + 1) (v0 3 false a ⟨#[]⟩) (intC a) := fun W => in_v0 _ W m false (by decide) ha (by decide)
 have HIN : Hid _ := hin0
 have HLT : Hid (M < w.heap.size /\ K <= M) := ⟨h.lt, h.low⟩
 have HH : Hid _ := h
 have HB0 : Hid _ := b0
 have HY0 : Hid _ := y0
 clear h b0 x0 y0 hin0
 go_enter func102, ntmps102
 go_wp2_with fail
 try rw [hW0]
 refine cN.mono ?_
 rintro e W1 ⟨rfl, b1⟩
 have y1 := (b1.block (w.heap.size + 1) (by omega)).trans HY0.out
 obtain ⟨W9, hW9⟩ : ∃ W9, (((((W1.setCell ⟨w.heap.size + 1, 0, none⟩ (.int .i64 3)).setCell ⟨w.heap.size + 1, 1, none⟩ (.bool false)).setCell ⟨w.heap.size + 1, 2, none⟩ (.int .i64 a)).setCell ⟨w.heap.size + 1, 3, none⟩ (.string ⟨#[]⟩)).setCell ⟨w.heap.size + 1, 4, none⟩ (.slice none 0 0)).setCell ⟨w.heap.size + 1, 5, none⟩ (.slice none 0 0) = W9 := ⟨_, rfl⟩
 obtain ⟨q1, q2, q3, q4⟩ := set6 _ _ _ _ _ _ y1 hW9
 have HE : Hid (SR K (m + 1) M tv sv pv w (intC a) p (.returned (v0 3 false a ⟨#[]⟩)) W9) := by
  have hlt := HLT.out
  have hb : Below w.heap.size w W1 := HB0.out.trans (b1.mono (by omega))
  refine ⟨_, pv, rfl, HIN.out W9, (HH.out.below hb).keep fun c hc hc2 => q2 c ?_, ⟨q4 _ _ (by omega) (hb.mono (by omega)), fun c hc h1 h2 => ?_⟩, rfl⟩
  ·rcases hc2 with hc2 | hc2 | hc2
   ·omega
   ·omega
   ·have := HH.out.own_ne hc2; omega
  ·rw [q2 c (by omega), hb.block c hc]
 have HQ1 : Hid _ := q1
 have HW9 : Hid (_ = W9) := hW9
 obtain ⟨v0', v1', v2', v3', v4', v5'⟩ := six_box y1
 have g0 := frozen_box y1 0
 have g1 := frozen_box y1 1
 have g2 := frozen_box y1 2
 have g3 := frozen_box y1 3
 have g4 := frozen_box y1 4
 have g5 := frozen_box y1 5
 clear q1 q2 q3 q4 b1 y1 cN hW9
 go_wp2_with fail
 rw [HW9.out]
 refine bodyPost_ret (results_cell_row rfl _ W9 (w.heap.size + 1) 46 _ (0, 0) _ rfl HQ1.out underlying46 rfl (by kernel_rfl)) rfl ?_
 exact HE.out
theorem second_zero {K m : Nat} {w : World} {M : Nat} {tv sv pv : Value} {p : List C} (h : Mc K (m + 1) w M tv sv pv p) {o a : Int} (ho : o = 10 \/ o = 11) :
  Calls prog 102 #[ptr M, .agg #[.int .i64 o, .int .i64 a]] w fun e w' => SR K (m + 1) M tv sv pv w zerC p e w' := by
 obtain ⟨W0, hW0, s0, b0, x0, y0⟩ := boxes w (.int .i64 o) (.int .i64 a)
 obtain ⟨i0, i1⟩ := two_box x0
 obtain ⟨W9, hW9⟩ : ∃ W9, (((((W0.setCell ⟨w.heap.size + 1, 0, none⟩ (.int .i64 0)).setCell ⟨w.heap.size + 1, 1, none⟩ (.bool false)).setCell ⟨w.heap.size + 1, 2, none⟩ (.int .i64 0)).setCell ⟨w.heap.size + 1, 3, none⟩ (.string ⟨#[]⟩)).setCell ⟨w.heap.size + 1, 4, none⟩ (.slice none 0 0)).setCell ⟨w.heap.size + 1, 5, none⟩ (.slice none 0 0) = W9 := ⟨_, rfl⟩
 obtain ⟨q1, q2, q3, q4⟩ := set6 _ _ _ _ _ _ y0 hW9
 have HE : Hid (SR K (m + 1) M tv sv pv w zerC p (.returned (v0 0 false 0 ⟨#[]⟩)) W9) := by
  have hlt := h.lt
  have hlow := h.low
  refine ⟨_, pv, rfl, in_v0 _ W9 m false (by decide) (by decide) (by decide), (h.below b0).keep fun c hc hc2 => q2 c ?_, ⟨q4 _ _ (by omega) (b0.mono (by omega)), fun c hc h1 h2 => ?_⟩, rfl⟩
  ·rcases hc2 with hc2 | hc2 | hc2
   ·omega
   ·omega
   ·have := h.own_ne hc2; omega
  ·rw [q2 c (by omega), b0.block c hc]
 have HQ1 : Hid _ := q1
 have HW0 : Hid (_ = W0) := hW0
 have HW9 : Hid (_ = W9) := hW9
 obtain ⟨v0', v1', v2', v3', v4', v5'⟩ := six_box y0
 have g0 := frozen_box y0 0
 have g1 := frozen_box y0 1
 have g2 := frozen_box y0 2
 have g3 := frozen_box y0 3
 have g4 := frozen_box y0 4
 have g5 := frozen_box y0 5
 have d7 : (o == 7) = false := by rcases ho with rfl | rfl <;> decide
 have d9 : (o == 9) = false := by rcases ho with rfl | rfl <;> decide
 clear q1 q2 q3 q4 h b0 x0 y0 hW9
 rcases ho with rfl | rfl
 all_goals
  go_enter func102, ntmps102
  go_wp2_with fail
  try rw [HW0.out]
  rw [HW9.out]
  refine bodyPost_ret (results_cell_row rfl _ W9 (w.heap.size + 1) 46 _ (0, 0) _ rfl HQ1.out underlying46 rfl (by kernel_rfl)) rfl ?_
  exact HE.out
end Go.Proofs.YthjbknncbhkinaaGreatDoor.MSf
namespace Go.Proofs.YthjbknncbhkinaaGreatDoor.VPo
open Go.RowKit Base VPure VSm VEx VOr
theorem pair_Less (k1 : Int) (b1 : Bool) (i1 : Int) (s1 : ByteArray) (n1 l1 : Value) (k2 : Int) (b2 : Bool) (i2 : Int) (s2 : ByteArray) (n2 l2 : Value) (w : World) :
  Calls prog 90 #[.int .i64 23, vl k1 b1 i1 s1 n1 l1, vl k2 b2 i2 s2 n2 l2] w fun e w' => An w w' e (fun c : Bool => v0 2 c 0 ⟨#[]⟩) (bnd (ord k1 i1 s1 k2 i2 s2) fun c => .ok (decide (c < 0))) := by
 obtain ⟨W0, hW0, hs0, hb0, hp, hq, hr⟩ := two3 w #[.int .i64 k1, .bool b1, .int .i64 i1, .string s1, n1, l1] #[.int .i64 k2, .bool b2, .int .i64 i2, .string s2, n2, l2]
 have HR : Hid (W0.heap[w.heap.size + 2]? = some (.cells #[.int .i64 0, .bool false, .int .i64 0, .string ⟨#[]⟩, .slice none 0 0, .slice none 0 0] 46 (0, 0))) := hr
 have HB : Hid (Below w.heap.size w W0) := hb0
 obtain ⟨p0, p1, p2, p3, p4, p5⟩ := six_box hp
 obtain ⟨q0, q1, q2, q3, q4, q5⟩ := six_box hq
 have cI := order_c k1 b1 i1 s1 n1 l1 k2 b2 i2 s2 n2 l2 W0
 obtain ⟨U, hU⟩ : ∃ U, ord k1 i1 s1 k2 i2 s2 = U := ⟨_, rfl⟩
 rw [hU] at cI ⊢
 clear hp hq hb0 hr hU
 go_enter func90, ntmps90
 go_upto_if 39 with fail
 refine wp_cond_true (by rfl) ?_
 refine wp_exit ?_
 repeat (first | (with_reducible refine ex_then ?_) | (with_reducible refine ex_skip (by decide) ?_))
 refine ex_hit ?_
 refine ex_norm ?_
 apply_assumption
 refine wp_mono (Q := Out ?outB) ?outM (out_mono ?outR ?outP)
 case outR => intro a w h; (repeat (first | (with_reducible refine rt_then ?_) | (with_reducible refine rt_blk ?_))); exact h
 case outP => intro c a w h; (repeat (first | (with_reducible refine pn_then ?_) | (with_reducible refine pn_blk ?_))); exact h
 try simp only [hW0]
 go_wp2_with fail
 try rw [hW0]
 refine cI.mono ?_
 intro e W1 hA
 clear cI
 cases U with
 | error c =>
  obtain ⟨rfl, hb1⟩ := hA
  exact ⟨rfl, rfl, HB.out.trans (hb1.mono HB.out.size)⟩
 | ok c =>
  obtain ⟨rfl, hb1⟩ := hA
  have HR1 : Hid (W1.heap[w.heap.size + 2]? = some (.cells #[.int .i64 0, .bool false, .int .i64 0, .string ⟨#[]⟩, .slice none 0 0, .slice none 0 0] 46 (0, 0))) := (hb1.block (w.heap.size + 2) (by omega)).trans HR.out
  have hs1 := hb1.size
  have HB1 : Hid (Below w.heap.size w W1) := HB.out.trans (hb1.mono HB.out.size)
  clear hb1 HR HB p0 p1 p2 p3 p4 p5 q0 q1 q2 q3 q4 q5
  obtain ⟨B, hB⟩ : ∃ B, decide (c < 0) = B := ⟨_, rfl⟩
  have cT := truth_c B
  go_wp2_with fail
  refine (cT _).mono ?_
  rintro e W2 ⟨rfl, hb2⟩
  clear cT
  have hr := (hb2.block (w.heap.size + 2) (by omega)).trans HR1.out
  have HB2 : Hid (Below w.heap.size w W2) := HB1.out.trans (hb2.mono HB1.out.size)
  clear hb2 HB1 HR1
  obtain ⟨r0, r1, r2, r3, r4, r5⟩ := six_box hr
  have rf0 := frozen_box hr 0
  have rf1 := frozen_box hr 1
  have rf2 := frozen_box hr 2
  have rf3 := frozen_box hr 3
  have rf4 := frozen_box hr 4
  have rf5 := frozen_box hr 5
  go_wp2_with fail
  obtain ⟨W9, hW9⟩ : ∃ W9, ((((((W2.setCell ⟨w.heap.size + 2, 0, none⟩ (.int .i64 2)).setCell ⟨w.heap.size + 2, 1, none⟩ (.bool B)).setCell ⟨w.heap.size + 2, 2, none⟩ (.int .i64 0)).setCell ⟨w.heap.size + 2, 3, none⟩ (.string ⟨#[]⟩)).setCell ⟨w.heap.size + 2, 4, none⟩ (.slice none 0 0)).setCell ⟨w.heap.size + 2, 5, none⟩ (.slice none 0 0)) = W9 := ⟨_, rfl⟩
  rw [hW9]
  obtain ⟨q1, q2, q3, q4⟩ := set6 _ _ _ _ _ _ hr hW9
  first | refine out_ret (results_cell_row rfl _ W9 (w.heap.size + 2) 46 _ (0, 0) _ rfl q1 underlying46 rfl (by kernel_rfl)) rfl ?_ | refine bodyPost_ret (results_cell_row rfl _ W9 (w.heap.size + 2) 46 _ (0, 0) _ rfl q1 underlying46 rfl (by kernel_rfl)) rfl ?_
  try subst hB
  exact ⟨rfl, q4 _ _ (by omega) HB2.out⟩
theorem pair_Most (k1 : Int) (b1 : Bool) (i1 : Int) (s1 : ByteArray) (n1 l1 : Value) (k2 : Int) (b2 : Bool) (i2 : Int) (s2 : ByteArray) (n2 l2 : Value) (w : World) :
  Calls prog 90 #[.int .i64 24, vl k1 b1 i1 s1 n1 l1, vl k2 b2 i2 s2 n2 l2] w fun e w' => An w w' e (fun c : Bool => v0 2 c 0 ⟨#[]⟩) (bnd (ord k1 i1 s1 k2 i2 s2) fun c => .ok (decide (c <= 0))) := by
 obtain ⟨W0, hW0, hs0, hb0, hp, hq, hr⟩ := two3 w #[.int .i64 k1, .bool b1, .int .i64 i1, .string s1, n1, l1] #[.int .i64 k2, .bool b2, .int .i64 i2, .string s2, n2, l2]
 have HR : Hid (W0.heap[w.heap.size + 2]? = some (.cells #[.int .i64 0, .bool false, .int .i64 0, .string ⟨#[]⟩, .slice none 0 0, .slice none 0 0] 46 (0, 0))) := hr
 have HB : Hid (Below w.heap.size w W0) := hb0
 obtain ⟨p0, p1, p2, p3, p4, p5⟩ := six_box hp
 obtain ⟨q0, q1, q2, q3, q4, q5⟩ := six_box hq
 have cI := order_c k1 b1 i1 s1 n1 l1 k2 b2 i2 s2 n2 l2 W0
 obtain ⟨U, hU⟩ : ∃ U, ord k1 i1 s1 k2 i2 s2 = U := ⟨_, rfl⟩
 rw [hU] at cI ⊢
 clear hp hq hb0 hr hU
 go_enter func90, ntmps90
 go_upto_if 43 with fail
 refine wp_cond_true (by rfl) ?_
 refine wp_exit ?_
 repeat (first | (with_reducible refine ex_then ?_) | (with_reducible refine ex_skip (by decide) ?_))
 refine ex_hit ?_
 refine ex_norm ?_
 apply_assumption
 refine wp_mono (Q := Out ?outB) ?outM (out_mono ?outR ?outP)
 case outR => intro a w h; (repeat (first | (with_reducible refine rt_then ?_) | (with_reducible refine rt_blk ?_))); exact h
 case outP => intro c a w h; (repeat (first | (with_reducible refine pn_then ?_) | (with_reducible refine pn_blk ?_))); exact h
 try simp only [hW0]
 go_wp2_with fail
 try rw [hW0]
 refine cI.mono ?_
 intro e W1 hA
 clear cI
 cases U with
 | error c =>
  obtain ⟨rfl, hb1⟩ := hA
  exact ⟨rfl, rfl, HB.out.trans (hb1.mono HB.out.size)⟩
 | ok c =>
  obtain ⟨rfl, hb1⟩ := hA
  have HR1 : Hid (W1.heap[w.heap.size + 2]? = some (.cells #[.int .i64 0, .bool false, .int .i64 0, .string ⟨#[]⟩, .slice none 0 0, .slice none 0 0] 46 (0, 0))) := (hb1.block (w.heap.size + 2) (by omega)).trans HR.out
  have hs1 := hb1.size
  have HB1 : Hid (Below w.heap.size w W1) := HB.out.trans (hb1.mono HB.out.size)
  clear hb1 HR HB p0 p1 p2 p3 p4 p5 q0 q1 q2 q3 q4 q5
  obtain ⟨B, hB⟩ : ∃ B, decide (c <= 0) = B := ⟨_, rfl⟩
  have cT := truth_c B
  go_wp2_with fail
  refine (cT _).mono ?_
  rintro e W2 ⟨rfl, hb2⟩
  clear cT
  have hr := (hb2.block (w.heap.size + 2) (by omega)).trans HR1.out
  have HB2 : Hid (Below w.heap.size w W2) := HB1.out.trans (hb2.mono HB1.out.size)
  clear hb2 HB1 HR1
  obtain ⟨r0, r1, r2, r3, r4, r5⟩ := six_box hr
  have rf0 := frozen_box hr 0
  have rf1 := frozen_box hr 1
  have rf2 := frozen_box hr 2
  have rf3 := frozen_box hr 3
  have rf4 := frozen_box hr 4
  have rf5 := frozen_box hr 5
  go_wp2_with fail
  obtain ⟨W9, hW9⟩ : ∃ W9, ((((((W2.setCell ⟨w.heap.size + 2, 0, none⟩ (.int .i64 2)).setCell ⟨w.heap.size + 2, 1, none⟩ (.bool B)).setCell ⟨w.heap.size + 2, 2, none⟩ (.int .i64 0)).setCell ⟨w.heap.size + 2, 3, none⟩ (.string ⟨#[]⟩)).setCell ⟨w.heap.size + 2, 4, none⟩ (.slice none 0 0)).setCell ⟨w.heap.size + 2, 5, none⟩ (.slice none 0 0)) = W9 := ⟨_, rfl⟩
  rw [hW9]
  obtain ⟨q1, q2, q3, q4⟩ := set6 _ _ _ _ _ _ hr hW9
  first | refine out_ret (results_cell_row rfl _ W9 (w.heap.size + 2) 46 _ (0, 0) _ rfl q1 underlying46 rfl (by kernel_rfl)) rfl ?_ | refine bodyPost_ret (results_cell_row rfl _ W9 (w.heap.size + 2) 46 _ (0, 0) _ rfl q1 underlying46 rfl (by kernel_rfl)) rfl ?_
  try subst hB
  exact ⟨rfl, q4 _ _ (by omega) HB2.out⟩
end Go.Proofs.YthjbknncbhkinaaGreatDoor.VPo
namespace Go.Proofs.YthjbknncbhkinaaGreatDoor.VPq
open Go.RowKit Base VPure VSm VEx VOr
theorem pair_More (k1 : Int) (b1 : Bool) (i1 : Int) (s1 : ByteArray) (an1 : Option Addr) (ln1 cn1 : Nat) (al1 : Option Addr) (ll1 cl1 : Nat) (k2 : Int) (b2 : Bool) (i2 : Int) (s2 : ByteArray) (an2 : Option Addr) (ln2 cn2 : Nat) (al2 : Option Addr) (ll2 cl2 : Nat) (w : World) :
  Calls prog 90 #[.int .i64 25, vl k1 b1 i1 s1 (.slice an1 ln1 cn1) (.slice al1 ll1 cl1), vl k2 b2 i2 s2 (.slice an2 ln2 cn2) (.slice al2 ll2 cl2)] w fun e w' => An w w' e (fun c : Bool => v0 2 c 0 ⟨#[]⟩) (bnd (ord k2 i2 s2 k1 i1 s1) fun c => .ok (decide (c < 0))) := by
 obtain ⟨W0, hW0, hs0, hb0, hp, hq, hr⟩ := two3 w #[.int .i64 k1, .bool b1, .int .i64 i1, .string s1, (.slice an1 ln1 cn1), (.slice al1 ll1 cl1)] #[.int .i64 k2, .bool b2, .int .i64 i2, .string s2, (.slice an2 ln2 cn2), (.slice al2 ll2 cl2)]
 have HR : Hid (W0.heap[w.heap.size + 2]? = some (.cells #[.int .i64 0, .bool false, .int .i64 0, .string ⟨#[]⟩, .slice none 0 0, .slice none 0 0] 46 (0, 0))) := hr
 have HB : Hid (Below w.heap.size w W0) := hb0
 obtain ⟨p0, p1, p2, p3, p4, p5⟩ := six_box hp
 obtain ⟨q0, q1, q2, q3, q4, q5⟩ := six_box hq
 have pf0 := frozen_box hp 0
 have pf1 := frozen_box hp 1
 have pf2 := frozen_box hp 2
 have pf3 := frozen_box hp 3
 have pf4 := frozen_box hp 4
 have pf5 := frozen_box hp 5
 obtain ⟨V1, hV1⟩ : ∃ V1, ((((((W0.setCell ⟨w.heap.size, 0, none⟩ (.int .i64 k2)).setCell ⟨w.heap.size, 1, none⟩ (.bool b2)).setCell ⟨w.heap.size, 2, none⟩ (.int .i64 i2)).setCell ⟨w.heap.size, 3, none⟩ (.string s2)).setCell ⟨w.heap.size, 4, none⟩ (.slice an2 ln2 cn2)).setCell ⟨w.heap.size, 5, none⟩ (.slice al2 ll2 cl2)) = V1 := ⟨_, rfl⟩
 obtain ⟨a1, a2, a3, a4⟩ := set6 _ _ _ _ _ _ hp hV1
 have hq1 := (a2 (w.heap.size + 1) (by omega)).trans hq
 have qf0 := frozen_box hq1 0
 have qf1 := frozen_box hq1 1
 have qf2 := frozen_box hq1 2
 have qf3 := frozen_box hq1 3
 have qf4 := frozen_box hq1 4
 have qf5 := frozen_box hq1 5
 obtain ⟨y0, y1, y2, y3, y4, y5⟩ := six_box hq1
 obtain ⟨V2, hV2⟩ : ∃ V2, ((((((V1.setCell ⟨w.heap.size + 1, 0, none⟩ (.int .i64 k1)).setCell ⟨w.heap.size + 1, 1, none⟩ (.bool b1)).setCell ⟨w.heap.size + 1, 2, none⟩ (.int .i64 i1)).setCell ⟨w.heap.size + 1, 3, none⟩ (.string s1)).setCell ⟨w.heap.size + 1, 4, none⟩ (.slice an1 ln1 cn1)).setCell ⟨w.heap.size + 1, 5, none⟩ (.slice al1 ll1 cl1)) = V2 := ⟨_, rfl⟩
 obtain ⟨c1, c2, c3, c4⟩ := set6 _ _ _ _ _ _ hq1 hV2
 have hp2 := (c2 w.heap.size (by omega)).trans a1
 obtain ⟨x0, x1, x2, x3, x4, x5⟩ := six_box hp2
 obtain ⟨z0, z1, z2, z3, z4, z5⟩ := six_box c1
 have HR2 : Hid (V2.heap[w.heap.size + 2]? = some (.cells #[.int .i64 0, .bool false, .int .i64 0, .string ⟨#[]⟩, .slice none 0 0, .slice none 0 0] 46 (0, 0))) := (c2 _ (by omega)).trans ((a2 _ (by omega)).trans hr)
 have hbv : Below w.heap.size w V2 := c4 _ _ (by omega) (a4 _ _ (Nat.le_refl _) hb0)
 have HBV : Hid (Below w.heap.size w V2) := hbv
 have hsv : V2.heap.size = w.heap.size + 3 := by rw [<- hV2, <- hV1]; simp [hs0]
 clear a1 a2 a3 a4 c1 c2 c3 c4 hq1 hp2 hbv HR HB
 have HR := HR2
 have HB := HBV
 clear HR2 HBV
 have cI := order_c k2 b2 i2 s2 (.slice an2 ln2 cn2) (.slice al2 ll2 cl2) k1 b1 i1 s1 (.slice an1 ln1 cn1) (.slice al1 ll1 cl1) V2
 obtain ⟨U, hU⟩ : ∃ U, ord k2 i2 s2 k1 i1 s1 = U := ⟨_, rfl⟩
 rw [hU] at cI ⊢
 clear hp hq hb0 hr hU
 go_enter func90, ntmps90
 go_upto_if 37 with fail
 refine wp_cond_true (by rfl) ?_
 refine wp_exit ?_
 repeat (first | (with_reducible refine ex_then ?_) | (with_reducible refine ex_skip (by decide) ?_))
 refine ex_hit ?_
 refine ex_norm ?_
 apply_assumption
 try simp only [hW0]
 go_upto_region 36 with fail
 go_wp2_with fail
 try rw [hW0]
 try rw [hV1]
 try rw [hV2]
 refine cI.mono ?_
 intro e W1 hA
 clear cI
 cases U with
 | error c =>
  obtain ⟨rfl, hb1⟩ := hA
  exact ⟨rfl, rfl, HB.out.trans (hb1.mono HB.out.size)⟩
 | ok c =>
  obtain ⟨rfl, hb1⟩ := hA
  have HR1 : Hid (W1.heap[w.heap.size + 2]? = some (.cells #[.int .i64 0, .bool false, .int .i64 0, .string ⟨#[]⟩, .slice none 0 0, .slice none 0 0] 46 (0, 0))) := (hb1.block (w.heap.size + 2) (by omega)).trans HR.out
  have hs1 := hb1.size
  have HB1 : Hid (Below w.heap.size w W1) := HB.out.trans (hb1.mono HB.out.size)
  clear hb1 HR HB p0 p1 p2 p3 p4 p5 q0 q1 q2 q3 q4 q5 x0 x1 x2 x3 x4 x5 y0 y1 y2 y3 y4 y5 z0 z1 z2 z3 z4 z5 pf0 pf1 pf2 pf3 pf4 pf5 qf0 qf1 qf2 qf3 qf4 qf5
  obtain ⟨B, hB⟩ : ∃ B, decide (c < 0) = B := ⟨_, rfl⟩
  have cT := truth_c B
  go_wp2_with fail
  refine (cT _).mono ?_
  rintro e W2 ⟨rfl, hb2⟩
  clear cT
  have hr := (hb2.block (w.heap.size + 2) (by omega)).trans HR1.out
  have HB2 : Hid (Below w.heap.size w W2) := HB1.out.trans (hb2.mono HB1.out.size)
  clear hb2 HB1 HR1
  obtain ⟨r0, r1, r2, r3, r4, r5⟩ := six_box hr
  have rf0 := frozen_box hr 0
  have rf1 := frozen_box hr 1
  have rf2 := frozen_box hr 2
  have rf3 := frozen_box hr 3
  have rf4 := frozen_box hr 4
  have rf5 := frozen_box hr 5
  go_wp2_with fail
  obtain ⟨W9, hW9⟩ : ∃ W9, ((((((W2.setCell ⟨w.heap.size + 2, 0, none⟩ (.int .i64 2)).setCell ⟨w.heap.size + 2, 1, none⟩ (.bool B)).setCell ⟨w.heap.size + 2, 2, none⟩ (.int .i64 0)).setCell ⟨w.heap.size + 2, 3, none⟩ (.string ⟨#[]⟩)).setCell ⟨w.heap.size + 2, 4, none⟩ (.slice none 0 0)).setCell ⟨w.heap.size + 2, 5, none⟩ (.slice none 0 0)) = W9 := ⟨_, rfl⟩
  rw [hW9]
  obtain ⟨q1, q2, q3, q4⟩ := set6 _ _ _ _ _ _ hr hW9
  first | refine out_ret (results_cell_row rfl _ W9 (w.heap.size + 2) 46 _ (0, 0) _ rfl q1 underlying46 rfl (by kernel_rfl)) rfl ?_ | refine bodyPost_ret (results_cell_row rfl _ W9 (w.heap.size + 2) 46 _ (0, 0) _ rfl q1 underlying46 rfl (by kernel_rfl)) rfl ?_
  try subst hB
  exact ⟨rfl, q4 _ _ (by omega) HB2.out⟩
theorem pair_Least (k1 : Int) (b1 : Bool) (i1 : Int) (s1 : ByteArray) (an1 : Option Addr) (ln1 cn1 : Nat) (al1 : Option Addr) (ll1 cl1 : Nat) (k2 : Int) (b2 : Bool) (i2 : Int) (s2 : ByteArray) (an2 : Option Addr) (ln2 cn2 : Nat) (al2 : Option Addr) (ll2 cl2 : Nat) (w : World) :
  Calls prog 90 #[.int .i64 26, vl k1 b1 i1 s1 (.slice an1 ln1 cn1) (.slice al1 ll1 cl1), vl k2 b2 i2 s2 (.slice an2 ln2 cn2) (.slice al2 ll2 cl2)] w fun e w' => An w w' e (fun c : Bool => v0 2 c 0 ⟨#[]⟩) (bnd (ord k2 i2 s2 k1 i1 s1) fun c => .ok (decide (c <= 0))) := by
 obtain ⟨W0, hW0, hs0, hb0, hp, hq, hr⟩ := two3 w #[.int .i64 k1, .bool b1, .int .i64 i1, .string s1, (.slice an1 ln1 cn1), (.slice al1 ll1 cl1)] #[.int .i64 k2, .bool b2, .int .i64 i2, .string s2, (.slice an2 ln2 cn2), (.slice al2 ll2 cl2)]
 have HR : Hid (W0.heap[w.heap.size + 2]? = some (.cells #[.int .i64 0, .bool false, .int .i64 0, .string ⟨#[]⟩, .slice none 0 0, .slice none 0 0] 46 (0, 0))) := hr
 have HB : Hid (Below w.heap.size w W0) := hb0
 obtain ⟨p0, p1, p2, p3, p4, p5⟩ := six_box hp
 obtain ⟨q0, q1, q2, q3, q4, q5⟩ := six_box hq
 have pf0 := frozen_box hp 0
 have pf1 := frozen_box hp 1
 have pf2 := frozen_box hp 2
 have pf3 := frozen_box hp 3
 have pf4 := frozen_box hp 4
 have pf5 := frozen_box hp 5
 obtain ⟨V1, hV1⟩ : ∃ V1, ((((((W0.setCell ⟨w.heap.size, 0, none⟩ (.int .i64 k2)).setCell ⟨w.heap.size, 1, none⟩ (.bool b2)).setCell ⟨w.heap.size, 2, none⟩ (.int .i64 i2)).setCell ⟨w.heap.size, 3, none⟩ (.string s2)).setCell ⟨w.heap.size, 4, none⟩ (.slice an2 ln2 cn2)).setCell ⟨w.heap.size, 5, none⟩ (.slice al2 ll2 cl2)) = V1 := ⟨_, rfl⟩
 obtain ⟨a1, a2, a3, a4⟩ := set6 _ _ _ _ _ _ hp hV1
 have hq1 := (a2 (w.heap.size + 1) (by omega)).trans hq
 have qf0 := frozen_box hq1 0
 have qf1 := frozen_box hq1 1
 have qf2 := frozen_box hq1 2
 have qf3 := frozen_box hq1 3
 have qf4 := frozen_box hq1 4
 have qf5 := frozen_box hq1 5
 obtain ⟨y0, y1, y2, y3, y4, y5⟩ := six_box hq1
 obtain ⟨V2, hV2⟩ : ∃ V2, ((((((V1.setCell ⟨w.heap.size + 1, 0, none⟩ (.int .i64 k1)).setCell ⟨w.heap.size + 1, 1, none⟩ (.bool b1)).setCell ⟨w.heap.size + 1, 2, none⟩ (.int .i64 i1)).setCell ⟨w.heap.size + 1, 3, none⟩ (.string s1)).setCell ⟨w.heap.size + 1, 4, none⟩ (.slice an1 ln1 cn1)).setCell ⟨w.heap.size + 1, 5, none⟩ (.slice al1 ll1 cl1)) = V2 := ⟨_, rfl⟩
 obtain ⟨c1, c2, c3, c4⟩ := set6 _ _ _ _ _ _ hq1 hV2
 have hp2 := (c2 w.heap.size (by omega)).trans a1
 obtain ⟨x0, x1, x2, x3, x4, x5⟩ := six_box hp2
 obtain ⟨z0, z1, z2, z3, z4, z5⟩ := six_box c1
 have HR2 : Hid (V2.heap[w.heap.size + 2]? = some (.cells #[.int .i64 0, .bool false, .int .i64 0, .string ⟨#[]⟩, .slice none 0 0, .slice none 0 0] 46 (0, 0))) := (c2 _ (by omega)).trans ((a2 _ (by omega)).trans hr)
 have hbv : Below w.heap.size w V2 := c4 _ _ (by omega) (a4 _ _ (Nat.le_refl _) hb0)
 have HBV : Hid (Below w.heap.size w V2) := hbv
 have hsv : V2.heap.size = w.heap.size + 3 := by rw [<- hV2, <- hV1]; simp [hs0]
 clear a1 a2 a3 a4 c1 c2 c3 c4 hq1 hp2 hbv HR HB
 have HR := HR2
 have HB := HBV
 clear HR2 HBV
 have cI := order_c k2 b2 i2 s2 (.slice an2 ln2 cn2) (.slice al2 ll2 cl2) k1 b1 i1 s1 (.slice an1 ln1 cn1) (.slice al1 ll1 cl1) V2
 obtain ⟨U, hU⟩ : ∃ U, ord k2 i2 s2 k1 i1 s1 = U := ⟨_, rfl⟩
 rw [hU] at cI ⊢
 clear hp hq hb0 hr hU
 go_enter func90, ntmps90
 go_upto_if 41 with fail
 refine wp_cond_true (by rfl) ?_
 refine wp_exit ?_
 repeat (first | (with_reducible refine ex_then ?_) | (with_reducible refine ex_skip (by decide) ?_))
 refine ex_hit ?_
 refine ex_norm ?_
 apply_assumption
 try simp only [hW0]
 go_upto_region 38 with fail
 go_wp2_with fail
 try rw [hW0]
 try rw [hV1]
 try rw [hV2]
 refine cI.mono ?_
 intro e W1 hA
 clear cI
 cases U with
 | error c =>
  obtain ⟨rfl, hb1⟩ := hA
  exact ⟨rfl, rfl, HB.out.trans (hb1.mono HB.out.size)⟩
 | ok c =>
  obtain ⟨rfl, hb1⟩ := hA
  have HR1 : Hid (W1.heap[w.heap.size + 2]? = some (.cells #[.int .i64 0, .bool false, .int .i64 0, .string ⟨#[]⟩, .slice none 0 0, .slice none 0 0] 46 (0, 0))) := (hb1.block (w.heap.size + 2) (by omega)).trans HR.out
  have hs1 := hb1.size
  have HB1 : Hid (Below w.heap.size w W1) := HB.out.trans (hb1.mono HB.out.size)
  clear hb1 HR HB p0 p1 p2 p3 p4 p5 q0 q1 q2 q3 q4 q5 x0 x1 x2 x3 x4 x5 y0 y1 y2 y3 y4 y5 z0 z1 z2 z3 z4 z5 pf0 pf1 pf2 pf3 pf4 pf5 qf0 qf1 qf2 qf3 qf4 qf5
  obtain ⟨B, hB⟩ : ∃ B, decide (c <= 0) = B := ⟨_, rfl⟩
  have cT := truth_c B
  go_wp2_with fail
  refine (cT _).mono ?_
  rintro e W2 ⟨rfl, hb2⟩
  clear cT
  have hr := (hb2.block (w.heap.size + 2) (by omega)).trans HR1.out
  have HB2 : Hid (Below w.heap.size w W2) := HB1.out.trans (hb2.mono HB1.out.size)
  clear hb2 HB1 HR1
  obtain ⟨r0, r1, r2, r3, r4, r5⟩ := six_box hr
  have rf0 := frozen_box hr 0
  have rf1 := frozen_box hr 1
  have rf2 := frozen_box hr 2
  have rf3 := frozen_box hr 3
  have rf4 := frozen_box hr 4
  have rf5 := frozen_box hr 5
  go_wp2_with fail
  obtain ⟨W9, hW9⟩ : ∃ W9, ((((((W2.setCell ⟨w.heap.size + 2, 0, none⟩ (.int .i64 2)).setCell ⟨w.heap.size + 2, 1, none⟩ (.bool B)).setCell ⟨w.heap.size + 2, 2, none⟩ (.int .i64 0)).setCell ⟨w.heap.size + 2, 3, none⟩ (.string ⟨#[]⟩)).setCell ⟨w.heap.size + 2, 4, none⟩ (.slice none 0 0)).setCell ⟨w.heap.size + 2, 5, none⟩ (.slice none 0 0)) = W9 := ⟨_, rfl⟩
  rw [hW9]
  obtain ⟨q1, q2, q3, q4⟩ := set6 _ _ _ _ _ _ hr hW9
  first | refine out_ret (results_cell_row rfl _ W9 (w.heap.size + 2) 46 _ (0, 0) _ rfl q1 underlying46 rfl (by kernel_rfl)) rfl ?_ | refine bodyPost_ret (results_cell_row rfl _ W9 (w.heap.size + 2) 46 _ (0, 0) _ rfl q1 underlying46 rfl (by kernel_rfl)) rfl ?_
  try subst hB
  exact ⟨rfl, q4 _ _ (by omega) HB2.out⟩
end Go.Proofs.YthjbknncbhkinaaGreatDoor.VPq
namespace Go.Proofs.YthjbknncbhkinaaGreatDoor.VPs
open Go.RowKit Base VSm VEx
theorem pair_Same (k1 : Int) (b1 : Bool) (i1 : Int) (s1 : ByteArray) (n1 l1 : Value) (k2 : Int) (b2 : Bool) (i2 : Int) (s2 : ByteArray) (n2 l2 : Value) (w : World) (S : Bool) (cS : ∀ W : World, Below w.heap.size w W -> Calls prog 117 #[vl k1 b1 i1 s1 n1 l1, vl k2 b2 i2 s2 n2 l2] W fun e w' => e = .returned (.bool S) /\ Below W.heap.size W w') :
  Calls prog 90 #[.int .i64 27, vl k1 b1 i1 s1 n1 l1, vl k2 b2 i2 s2 n2 l2] w fun e w' => e = .returned (v0 2 (S) 0 ⟨#[]⟩) /\ Below w.heap.size w w' := by
 obtain ⟨W0, hW0, hs0, hb0, hp, hq, hr⟩ := two3 w #[.int .i64 k1, .bool b1, .int .i64 i1, .string s1, n1, l1] #[.int .i64 k2, .bool b2, .int .i64 i2, .string s2, n2, l2]
 have HR : Hid (W0.heap[w.heap.size + 2]? = some (.cells #[.int .i64 0, .bool false, .int .i64 0, .string ⟨#[]⟩, .slice none 0 0, .slice none 0 0] 46 (0, 0))) := hr
 have HB : Hid (Below w.heap.size w W0) := hb0
 obtain ⟨p0, p1, p2, p3, p4, p5⟩ := six_box hp
 obtain ⟨q0, q1, q2, q3, q4, q5⟩ := six_box hq
 have cI := cS W0 hb0
 clear hp hq hb0 hr cS
 have cT := truth_c
 cases S with
 | false =>
  go_enter func90, ntmps90
  go_upto_if 43 with fail
  refine wp_cond_false (by rfl) ?_
  refine wp_skip ?_
  refine ex_norm ?_
  apply_assumption
  refine wp_exit ?_
  repeat (first | (with_reducible refine ex_then ?_) | (with_reducible refine ex_skip (by decide) ?_))
  refine ex_hit ?_
  try (refine ex_norm ?_)
  apply_assumption
  try simp only [hW0]
  go_wp2_with fail
  try rw [hW0]
  refine cI.mono ?_
  rintro e W1 ⟨rfl, hb1⟩
  clear cI
  have HR1 : Hid (W1.heap[w.heap.size + 2]? = some (.cells #[.int .i64 0, .bool false, .int .i64 0, .string ⟨#[]⟩, .slice none 0 0, .slice none 0 0] 46 (0, 0))) := (hb1.block (w.heap.size + 2) (by omega)).trans HR.out
  have hs1 := hb1.size
  have HB1 : Hid (Below w.heap.size w W1) := HB.out.trans (hb1.mono HB.out.size)
  clear hb1 HR HB p0 p1 p2 p3 p4 p5 q0 q1 q2 q3 q4 q5
  go_wp2_with fail
  refine (cT _ _).mono ?_
  rintro e W2 ⟨rfl, hb2⟩
  clear cT
  have hr := (hb2.block (w.heap.size + 2) (by omega)).trans HR1.out
  have HB2 : Hid (Below w.heap.size w W2) := HB1.out.trans (hb2.mono HB1.out.size)
  clear hb2 HB1 HR1
  obtain ⟨r0, r1, r2, r3, r4, r5⟩ := six_box hr
  have rf0 := frozen_box hr 0
  have rf1 := frozen_box hr 1
  have rf2 := frozen_box hr 2
  have rf3 := frozen_box hr 3
  have rf4 := frozen_box hr 4
  have rf5 := frozen_box hr 5
  go_wp2_with fail
  obtain ⟨W9, hW9⟩ : ∃ W9, ((((((W2.setCell ⟨w.heap.size + 2, 0, none⟩ (.int .i64 2)).setCell ⟨w.heap.size + 2, 1, none⟩ (.bool false)).setCell ⟨w.heap.size + 2, 2, none⟩ (.int .i64 0)).setCell ⟨w.heap.size + 2, 3, none⟩ (.string ⟨#[]⟩)).setCell ⟨w.heap.size + 2, 4, none⟩ (.slice none 0 0)).setCell ⟨w.heap.size + 2, 5, none⟩ (.slice none 0 0)) = W9 := ⟨_, rfl⟩
  rw [hW9]
  obtain ⟨q1, q2, q3, q4⟩ := set6 _ _ _ _ _ _ hr hW9
  refine bodyPost_ret (results_cell_row rfl _ W9 (w.heap.size + 2) 46 _ (0, 0) _ rfl q1 underlying46 rfl (by kernel_rfl)) rfl ?_
  try subst hB
  exact ⟨rfl, q4 _ _ (by omega) HB2.out⟩
 | true =>
  go_enter func90, ntmps90
  go_upto_if 43 with fail
  refine wp_cond_false (by rfl) ?_
  refine wp_skip ?_
  refine ex_norm ?_
  apply_assumption
  refine wp_exit ?_
  repeat (first | (with_reducible refine ex_then ?_) | (with_reducible refine ex_skip (by decide) ?_))
  refine ex_hit ?_
  try (refine ex_norm ?_)
  apply_assumption
  try simp only [hW0]
  go_wp2_with fail
  try rw [hW0]
  refine cI.mono ?_
  rintro e W1 ⟨rfl, hb1⟩
  clear cI
  have HR1 : Hid (W1.heap[w.heap.size + 2]? = some (.cells #[.int .i64 0, .bool false, .int .i64 0, .string ⟨#[]⟩, .slice none 0 0, .slice none 0 0] 46 (0, 0))) := (hb1.block (w.heap.size + 2) (by omega)).trans HR.out
  have hs1 := hb1.size
  have HB1 : Hid (Below w.heap.size w W1) := HB.out.trans (hb1.mono HB.out.size)
  clear hb1 HR HB p0 p1 p2 p3 p4 p5 q0 q1 q2 q3 q4 q5
  go_wp2_with fail
  refine (cT _ _).mono ?_
  rintro e W2 ⟨rfl, hb2⟩
  clear cT
  have hr := (hb2.block (w.heap.size + 2) (by omega)).trans HR1.out
  have HB2 : Hid (Below w.heap.size w W2) := HB1.out.trans (hb2.mono HB1.out.size)
  clear hb2 HB1 HR1
  obtain ⟨r0, r1, r2, r3, r4, r5⟩ := six_box hr
  have rf0 := frozen_box hr 0
  have rf1 := frozen_box hr 1
  have rf2 := frozen_box hr 2
  have rf3 := frozen_box hr 3
  have rf4 := frozen_box hr 4
  have rf5 := frozen_box hr 5
  go_wp2_with fail
  obtain ⟨W9, hW9⟩ : ∃ W9, ((((((W2.setCell ⟨w.heap.size + 2, 0, none⟩ (.int .i64 2)).setCell ⟨w.heap.size + 2, 1, none⟩ (.bool true)).setCell ⟨w.heap.size + 2, 2, none⟩ (.int .i64 0)).setCell ⟨w.heap.size + 2, 3, none⟩ (.string ⟨#[]⟩)).setCell ⟨w.heap.size + 2, 4, none⟩ (.slice none 0 0)).setCell ⟨w.heap.size + 2, 5, none⟩ (.slice none 0 0)) = W9 := ⟨_, rfl⟩
  rw [hW9]
  obtain ⟨q1, q2, q3, q4⟩ := set6 _ _ _ _ _ _ hr hW9
  refine bodyPost_ret (results_cell_row rfl _ W9 (w.heap.size + 2) 46 _ (0, 0) _ rfl q1 underlying46 rfl (by kernel_rfl)) rfl ?_
  try subst hB
  exact ⟨rfl, q4 _ _ (by omega) HB2.out⟩
theorem pair_Other (k1 : Int) (b1 : Bool) (i1 : Int) (s1 : ByteArray) (n1 l1 : Value) (k2 : Int) (b2 : Bool) (i2 : Int) (s2 : ByteArray) (n2 l2 : Value) (w : World) (S : Bool) (cS : ∀ W : World, Below w.heap.size w W -> Calls prog 117 #[vl k1 b1 i1 s1 n1 l1, vl k2 b2 i2 s2 n2 l2] W fun e w' => e = .returned (.bool S) /\ Below W.heap.size W w') :
  Calls prog 90 #[.int .i64 28, vl k1 b1 i1 s1 n1 l1, vl k2 b2 i2 s2 n2 l2] w fun e w' => e = .returned (v0 2 (!S) 0 ⟨#[]⟩) /\ Below w.heap.size w w' := by
 obtain ⟨W0, hW0, hs0, hb0, hp, hq, hr⟩ := two3 w #[.int .i64 k1, .bool b1, .int .i64 i1, .string s1, n1, l1] #[.int .i64 k2, .bool b2, .int .i64 i2, .string s2, n2, l2]
 have HR : Hid (W0.heap[w.heap.size + 2]? = some (.cells #[.int .i64 0, .bool false, .int .i64 0, .string ⟨#[]⟩, .slice none 0 0, .slice none 0 0] 46 (0, 0))) := hr
 have HB : Hid (Below w.heap.size w W0) := hb0
 obtain ⟨p0, p1, p2, p3, p4, p5⟩ := six_box hp
 obtain ⟨q0, q1, q2, q3, q4, q5⟩ := six_box hq
 have cI := cS W0 hb0
 clear hp hq hb0 hr cS
 have cT := truth_c
 cases S with
 | false =>
  go_enter func90, ntmps90
  go_upto_if 43 with fail
  refine wp_cond_false (by rfl) ?_
  refine wp_skip ?_
  refine ex_norm ?_
  apply_assumption
  refine wp_exit ?_
  repeat (first | (with_reducible refine ex_then ?_) | (with_reducible refine ex_skip (by decide) ?_))
  refine ex_hit ?_
  try (refine ex_norm ?_)
  apply_assumption
  try simp only [hW0]
  go_wp2_with fail
  try rw [hW0]
  refine cI.mono ?_
  rintro e W1 ⟨rfl, hb1⟩
  clear cI
  have HR1 : Hid (W1.heap[w.heap.size + 2]? = some (.cells #[.int .i64 0, .bool false, .int .i64 0, .string ⟨#[]⟩, .slice none 0 0, .slice none 0 0] 46 (0, 0))) := (hb1.block (w.heap.size + 2) (by omega)).trans HR.out
  have hs1 := hb1.size
  have HB1 : Hid (Below w.heap.size w W1) := HB.out.trans (hb1.mono HB.out.size)
  clear hb1 HR HB p0 p1 p2 p3 p4 p5 q0 q1 q2 q3 q4 q5
  go_wp2_with fail
  refine (cT _ _).mono ?_
  rintro e W2 ⟨rfl, hb2⟩
  clear cT
  have hr := (hb2.block (w.heap.size + 2) (by omega)).trans HR1.out
  have HB2 : Hid (Below w.heap.size w W2) := HB1.out.trans (hb2.mono HB1.out.size)
  clear hb2 HB1 HR1
  obtain ⟨r0, r1, r2, r3, r4, r5⟩ := six_box hr
  have rf0 := frozen_box hr 0
  have rf1 := frozen_box hr 1
  have rf2 := frozen_box hr 2
  have rf3 := frozen_box hr 3
  have rf4 := frozen_box hr 4
  have rf5 := frozen_box hr 5
  go_wp2_with fail
  obtain ⟨W9, hW9⟩ : ∃ W9, ((((((W2.setCell ⟨w.heap.size + 2, 0, none⟩ (.int .i64 2)).setCell ⟨w.heap.size + 2, 1, none⟩ (.bool true)).setCell ⟨w.heap.size + 2, 2, none⟩ (.int .i64 0)).setCell ⟨w.heap.size + 2, 3, none⟩ (.string ⟨#[]⟩)).setCell ⟨w.heap.size + 2, 4, none⟩ (.slice none 0 0)).setCell ⟨w.heap.size + 2, 5, none⟩ (.slice none 0 0)) = W9 := ⟨_, rfl⟩
  rw [hW9]
  obtain ⟨q1, q2, q3, q4⟩ := set6 _ _ _ _ _ _ hr hW9
  refine bodyPost_ret (results_cell_row rfl _ W9 (w.heap.size + 2) 46 _ (0, 0) _ rfl q1 underlying46 rfl (by kernel_rfl)) rfl ?_
  try subst hB
  exact ⟨rfl, q4 _ _ (by omega) HB2.out⟩
 | true =>
  go_enter func90, ntmps90
  go_upto_if 43 with fail
  refine wp_cond_false (by rfl) ?_
  refine wp_skip ?_
  refine ex_norm ?_
  apply_assumption
  refine wp_exit ?_
  repeat (first | (with_reducible refine ex_then ?_) | (with_reducible refine ex_skip (by decide) ?_))
  refine ex_hit ?_
  try (refine ex_norm ?_)
  apply_assumption
  try simp only [hW0]
  go_wp2_with fail
  try rw [hW0]
  refine cI.mono ?_
  rintro e W1 ⟨rfl, hb1⟩
  clear cI
  have HR1 : Hid (W1.heap[w.heap.size + 2]? = some (.cells #[.int .i64 0, .bool false, .int .i64 0, .string ⟨#[]⟩, .slice none 0 0, .slice none 0 0] 46 (0, 0))) := (hb1.block (w.heap.size + 2) (by omega)).trans HR.out
  have hs1 := hb1.size
  have HB1 : Hid (Below w.heap.size w W1) := HB.out.trans (hb1.mono HB.out.size)
  clear hb1 HR HB p0 p1 p2 p3 p4 p5 q0 q1 q2 q3 q4 q5
  go_wp2_with fail
  refine (cT _ _).mono ?_
  rintro e W2 ⟨rfl, hb2⟩
  clear cT
  have hr := (hb2.block (w.heap.size + 2) (by omega)).trans HR1.out
  have HB2 : Hid (Below w.heap.size w W2) := HB1.out.trans (hb2.mono HB1.out.size)
  clear hb2 HB1 HR1
  obtain ⟨r0, r1, r2, r3, r4, r5⟩ := six_box hr
  have rf0 := frozen_box hr 0
  have rf1 := frozen_box hr 1
  have rf2 := frozen_box hr 2
  have rf3 := frozen_box hr 3
  have rf4 := frozen_box hr 4
  have rf5 := frozen_box hr 5
  go_wp2_with fail
  obtain ⟨W9, hW9⟩ : ∃ W9, ((((((W2.setCell ⟨w.heap.size + 2, 0, none⟩ (.int .i64 2)).setCell ⟨w.heap.size + 2, 1, none⟩ (.bool false)).setCell ⟨w.heap.size + 2, 2, none⟩ (.int .i64 0)).setCell ⟨w.heap.size + 2, 3, none⟩ (.string ⟨#[]⟩)).setCell ⟨w.heap.size + 2, 4, none⟩ (.slice none 0 0)).setCell ⟨w.heap.size + 2, 5, none⟩ (.slice none 0 0)) = W9 := ⟨_, rfl⟩
  rw [hW9]
  obtain ⟨q1, q2, q3, q4⟩ := set6 _ _ _ _ _ _ hr hW9
  refine bodyPost_ret (results_cell_row rfl _ W9 (w.heap.size + 2) 46 _ (0, 0) _ rfl q1 underlying46 rfl (by kernel_rfl)) rfl ?_
  try subst hB
  exact ⟨rfl, q4 _ _ (by omega) HB2.out⟩
end Go.Proofs.YthjbknncbhkinaaGreatDoor.VPs

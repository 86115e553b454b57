import Derived.Test.YthjbknncbhkinaaGreatDoorPS15
open Go.Proofs.Tryz
set_option linter.unusedVariables false
set_option maxRecDepth 20000
set_option maxHeartbeats 3200000
namespace Go.Proofs.YthjbknncbhkinaaGreatDoor.VPn
open Go.RowKit Base VPure VSm VIn VEx
theorem pair_Add (k1 : Int) (b1 : Bool) (i1 : Int) (s1 : ByteArray) (n1 l1 : Value) (k2 : Int) (b2 : Bool) (i2 : Int) (s2 : ByteArray) (n2 l2 : Value) (w : World) (x e0 : Int) (cW : k1 = 3 -> k2 = 3 -> ∀ W : World, Calls prog 108 #[.int .i64 i1, .int .i64 i2] W fun e w' => e = .returned (.tuple #[.int .i64 x, .int .i64 e0]) /\ w' = W) :
  Calls prog 90 #[.int .i64 15, vl k1 b1 i1 s1 n1 l1, vl k2 b2 i2 s2 n2 l2] w fun e w' => An w w' e (fun c : Int => v0 3 false c ⟨#[]⟩) (twI k1 k2 x e0) := by
 obtain ⟨W0, hW0, hs0, hb0, hp, hq, hr⟩ := two3 w #[.int .i64 k1, .bool b1, .int .i64 i1, .string s1, n1, l1] #[.int .i64 k2, .bool b2, .int .i64 i2, .string s2, n2, l2]
 have HR : Hid (W0.heap[w.heap.size + 2]? = some (.cells #[.int .i64 0, .bool false, .int .i64 0, .string ⟨#[]⟩, .slice none 0 0, .slice none 0 0] 46 (0, 0))) := hr
 have HB : Hid (Below w.heap.size w W0) := hb0
 obtain ⟨p0, p1, p2, p3, p4, p5⟩ := six_box hp
 obtain ⟨q0, q1, q2, q3, q4, q5⟩ := six_box hq
 have cI := integers_c k1 b1 i1 s1 n1 l1 k2 b2 i2 s2 n2 l2 W0
 have cK := checked_c x e0
 obtain ⟨U, hU⟩ : ∃ U, twI k1 k2 x e0 = U := ⟨_, rfl⟩
 rw [hU]
 unfold twI at hU
 clear hp hq hb0 hr
 go_enter func90, ntmps90
 go_upto_if 19 with fail
 refine wp_cond_true (by rfl) ?_
 refine wp_exit ?_
 repeat (first | (with_reducible refine ex_then ?_) | (with_reducible refine ex_skip (by decide) ?_))
 refine ex_hit ?_
 refine ex_norm ?_
 apply_assumption
 refine wp_mono (Q := Out ?outB) ?outM (out_mono ?outR ?outP)
 case outR => intro a w h; (repeat (first | (with_reducible refine rt_then ?_) | (with_reducible refine rt_blk ?_))); exact h
 case outP => intro c a w h; (repeat (first | (with_reducible refine pn_then ?_) | (with_reducible refine pn_blk ?_))); exact h
 try simp only [hW0]
 go_wp2_with fail
 try rw [hW0]
 refine cI.mono ?_
 intro e W1 hA
 clear cI
 by_cases h1 : k1 = 3
 ·rw [if_pos h1] at hA hU
  by_cases h2 : k2 = 3
  ·rw [if_pos h2] at hA hU
   obtain ⟨rfl, hb1⟩ := hA
   have cw := cW h1 h2 W1
   have HR1 : Hid (W1.heap[w.heap.size + 2]? = some (.cells #[.int .i64 0, .bool false, .int .i64 0, .string ⟨#[]⟩, .slice none 0 0, .slice none 0 0] 46 (0, 0))) := (hb1.block (w.heap.size + 2) (by omega)).trans HR.out
   have hs1 := hb1.size
   have HB1 : Hid (Below w.heap.size w W1) := HB.out.trans (hb1.mono HB.out.size)
   clear hb1 HR HB h1 h2 cW p0 p1 p2 p3 p4 p5 q0 q1 q2 q3 q4 q5
   go_wp2_with fail
   refine cw.mono ?_
   rintro e W2 ⟨rfl, rfl⟩
   clear cw
   have cK := cK W2
   unfold chkI at hU
   rw [hU] at cK
   have hU2 := hU
   clear hU
   go_wp2_with fail
   refine cK.mono ?_
   intro e W3 hA
   clear cK
   cases U with
   | error c =>
    obtain ⟨rfl, hb3⟩ := hA
    exact ⟨rfl, rfl, HB1.out.trans (hb3.mono HB1.out.size)⟩
   | ok y =>
    obtain ⟨rfl, hb3⟩ := hA
    have hr := (hb3.block (w.heap.size + 2) (by omega)).trans HR1.out
    have HB3 : Hid (Below w.heap.size w W3) := HB1.out.trans (hb3.mono HB1.out.size)
    clear hb3 HB1 HR1 hU2
    obtain ⟨r0, r1, r2, r3, r4, r5⟩ := six_box hr
    have rf0 := frozen_box hr 0
    have rf1 := frozen_box hr 1
    have rf2 := frozen_box hr 2
    have rf3 := frozen_box hr 3
    have rf4 := frozen_box hr 4
    have rf5 := frozen_box hr 5
    go_wp2_with fail
    obtain ⟨W9, hW9⟩ : ∃ W9, ((((((W3.setCell ⟨w.heap.size + 2, 0, none⟩ (.int .i64 3)).setCell ⟨w.heap.size + 2, 1, none⟩ (.bool false)).setCell ⟨w.heap.size + 2, 2, none⟩ (.int .i64 y)).setCell ⟨w.heap.size + 2, 3, none⟩ (.string ⟨#[]⟩)).setCell ⟨w.heap.size + 2, 4, none⟩ (.slice none 0 0)).setCell ⟨w.heap.size + 2, 5, none⟩ (.slice none 0 0)) = W9 := ⟨_, rfl⟩
    rw [hW9]
    obtain ⟨q1, q2, q3, q4⟩ := set6 _ _ _ _ _ _ hr hW9
    refine out_ret (results_cell_row rfl _ W9 (w.heap.size + 2) 46 _ (0, 0) _ rfl q1 underlying46 rfl (by kernel_rfl)) rfl ?_
    exact ⟨rfl, q4 _ _ (by omega) HB3.out⟩
  ·rw [if_neg h2] at hA hU
   obtain ⟨rfl, hb1⟩ := hA
   subst hU
   exact ⟨rfl, rfl, HB.out.trans (hb1.mono HB.out.size)⟩
 ·rw [if_neg h1] at hA hU
  obtain ⟨rfl, hb1⟩ := hA
  subst hU
  exact ⟨rfl, rfl, HB.out.trans (hb1.mono HB.out.size)⟩
theorem pair_Sub (k1 : Int) (b1 : Bool) (i1 : Int) (s1 : ByteArray) (n1 l1 : Value) (k2 : Int) (b2 : Bool) (i2 : Int) (s2 : ByteArray) (n2 l2 : Value) (w : World) (x e0 : Int) (cW : k1 = 3 -> k2 = 3 -> ∀ W : World, Calls prog 106 #[.int .i64 i1, .int .i64 i2] W fun e w' => e = .returned (.tuple #[.int .i64 x, .int .i64 e0]) /\ w' = W) :
  Calls prog 90 #[.int .i64 16, vl k1 b1 i1 s1 n1 l1, vl k2 b2 i2 s2 n2 l2] w fun e w' => An w w' e (fun c : Int => v0 3 false c ⟨#[]⟩) (twI k1 k2 x e0) := by
 obtain ⟨W0, hW0, hs0, hb0, hp, hq, hr⟩ := two3 w #[.int .i64 k1, .bool b1, .int .i64 i1, .string s1, n1, l1] #[.int .i64 k2, .bool b2, .int .i64 i2, .string s2, n2, l2]
 have HR : Hid (W0.heap[w.heap.size + 2]? = some (.cells #[.int .i64 0, .bool false, .int .i64 0, .string ⟨#[]⟩, .slice none 0 0, .slice none 0 0] 46 (0, 0))) := hr
 have HB : Hid (Below w.heap.size w W0) := hb0
 obtain ⟨p0, p1, p2, p3, p4, p5⟩ := six_box hp
 obtain ⟨q0, q1, q2, q3, q4, q5⟩ := six_box hq
 have cI := integers_c k1 b1 i1 s1 n1 l1 k2 b2 i2 s2 n2 l2 W0
 have cK := checked_c x e0
 obtain ⟨U, hU⟩ : ∃ U, twI k1 k2 x e0 = U := ⟨_, rfl⟩
 rw [hU]
 unfold twI at hU
 clear hp hq hb0 hr
 go_enter func90, ntmps90
 go_upto_if 17 with fail
 refine wp_cond_true (by rfl) ?_
 refine wp_exit ?_
 repeat (first | (with_reducible refine ex_then ?_) | (with_reducible refine ex_skip (by decide) ?_))
 refine ex_hit ?_
 refine ex_norm ?_
 apply_assumption
 refine wp_mono (Q := Out ?outB) ?outM (out_mono ?outR ?outP)
 case outR => intro a w h; (repeat (first | (with_reducible refine rt_then ?_) | (with_reducible refine rt_blk ?_))); exact h
 case outP => intro c a w h; (repeat (first | (with_reducible refine pn_then ?_) | (with_reducible refine pn_blk ?_))); exact h
 try simp only [hW0]
 go_wp2_with fail
 try rw [hW0]
 refine cI.mono ?_
 intro e W1 hA
 clear cI
 by_cases h1 : k1 = 3
 ·rw [if_pos h1] at hA hU
  by_cases h2 : k2 = 3
  ·rw [if_pos h2] at hA hU
   obtain ⟨rfl, hb1⟩ := hA
   have cw := cW h1 h2 W1
   have HR1 : Hid (W1.heap[w.heap.size + 2]? = some (.cells #[.int .i64 0, .bool false, .int .i64 0, .string ⟨#[]⟩, .slice none 0 0, .slice none 0 0] 46 (0, 0))) := (hb1.block (w.heap.size + 2) (by omega)).trans HR.out
   have hs1 := hb1.size
   have HB1 : Hid (Below w.heap.size w W1) := HB.out.trans (hb1.mono HB.out.size)
   clear hb1 HR HB h1 h2 cW p0 p1 p2 p3 p4 p5 q0 q1 q2 q3 q4 q5
   go_wp2_with fail
   refine cw.mono ?_
   rintro e W2 ⟨rfl, rfl⟩
   clear cw
   have cK := cK W2
   unfold chkI at hU
   rw [hU] at cK
   have hU2 := hU
   clear hU
   go_wp2_with fail
   refine cK.mono ?_
   intro e W3 hA
   clear cK
   cases U with
   | error c =>
    obtain ⟨rfl, hb3⟩ := hA
    exact ⟨rfl, rfl, HB1.out.trans (hb3.mono HB1.out.size)⟩
   | ok y =>
    obtain ⟨rfl, hb3⟩ := hA
    have hr := (hb3.block (w.heap.size + 2) (by omega)).trans HR1.out
    have HB3 : Hid (Below w.heap.size w W3) := HB1.out.trans (hb3.mono HB1.out.size)
    clear hb3 HB1 HR1 hU2
    obtain ⟨r0, r1, r2, r3, r4, r5⟩ := six_box hr
    have rf0 := frozen_box hr 0
    have rf1 := frozen_box hr 1
    have rf2 := frozen_box hr 2
    have rf3 := frozen_box hr 3
    have rf4 := frozen_box hr 4
    have rf5 := frozen_box hr 5
    go_wp2_with fail
    obtain ⟨W9, hW9⟩ : ∃ W9, ((((((W3.setCell ⟨w.heap.size + 2, 0, none⟩ (.int .i64 3)).setCell ⟨w.heap.size + 2, 1, none⟩ (.bool false)).setCell ⟨w.heap.size + 2, 2, none⟩ (.int .i64 y)).setCell ⟨w.heap.size + 2, 3, none⟩ (.string ⟨#[]⟩)).setCell ⟨w.heap.size + 2, 4, none⟩ (.slice none 0 0)).setCell ⟨w.heap.size + 2, 5, none⟩ (.slice none 0 0)) = W9 := ⟨_, rfl⟩
    rw [hW9]
    obtain ⟨q1, q2, q3, q4⟩ := set6 _ _ _ _ _ _ hr hW9
    refine out_ret (results_cell_row rfl _ W9 (w.heap.size + 2) 46 _ (0, 0) _ rfl q1 underlying46 rfl (by kernel_rfl)) rfl ?_
    exact ⟨rfl, q4 _ _ (by omega) HB3.out⟩
  ·rw [if_neg h2] at hA hU
   obtain ⟨rfl, hb1⟩ := hA
   subst hU
   exact ⟨rfl, rfl, HB.out.trans (hb1.mono HB.out.size)⟩
 ·rw [if_neg h1] at hA hU
  obtain ⟨rfl, hb1⟩ := hA
  subst hU
  exact ⟨rfl, rfl, HB.out.trans (hb1.mono HB.out.size)⟩
theorem pair_Mul (k1 : Int) (b1 : Bool) (i1 : Int) (s1 : ByteArray) (n1 l1 : Value) (k2 : Int) (b2 : Bool) (i2 : Int) (s2 : ByteArray) (n2 l2 : Value) (w : World) (x e0 : Int) (cW : k1 = 3 -> k2 = 3 -> ∀ W : World, Calls prog 109 #[.int .i64 i1, .int .i64 i2] W fun e w' => e = .returned (.tuple #[.int .i64 x, .int .i64 e0]) /\ w' = W) :
  Calls prog 90 #[.int .i64 12, vl k1 b1 i1 s1 n1 l1, vl k2 b2 i2 s2 n2 l2] w fun e w' => An w w' e (fun c : Int => v0 3 false c ⟨#[]⟩) (twI k1 k2 x e0) := by
 obtain ⟨W0, hW0, hs0, hb0, hp, hq, hr⟩ := two3 w #[.int .i64 k1, .bool b1, .int .i64 i1, .string s1, n1, l1] #[.int .i64 k2, .bool b2, .int .i64 i2, .string s2, n2, l2]
 have HR : Hid (W0.heap[w.heap.size + 2]? = some (.cells #[.int .i64 0, .bool false, .int .i64 0, .string ⟨#[]⟩, .slice none 0 0, .slice none 0 0] 46 (0, 0))) := hr
 have HB : Hid (Below w.heap.size w W0) := hb0
 obtain ⟨p0, p1, p2, p3, p4, p5⟩ := six_box hp
 obtain ⟨q0, q1, q2, q3, q4, q5⟩ := six_box hq
 have cI := integers_c k1 b1 i1 s1 n1 l1 k2 b2 i2 s2 n2 l2 W0
 have cK := checked_c x e0
 obtain ⟨U, hU⟩ : ∃ U, twI k1 k2 x e0 = U := ⟨_, rfl⟩
 rw [hU]
 unfold twI at hU
 clear hp hq hb0 hr
 go_enter func90, ntmps90
 go_upto_if 21 with fail
 refine wp_cond_true (by rfl) ?_
 refine wp_exit ?_
 repeat (first | (with_reducible refine ex_then ?_) | (with_reducible refine ex_skip (by decide) ?_))
 refine ex_hit ?_
 refine ex_norm ?_
 apply_assumption
 refine wp_mono (Q := Out ?outB) ?outM (out_mono ?outR ?outP)
 case outR => intro a w h; (repeat (first | (with_reducible refine rt_then ?_) | (with_reducible refine rt_blk ?_))); exact h
 case outP => intro c a w h; (repeat (first | (with_reducible refine pn_then ?_) | (with_reducible refine pn_blk ?_))); exact h
 try simp only [hW0]
 go_wp2_with fail
 try rw [hW0]
 refine cI.mono ?_
 intro e W1 hA
 clear cI
 by_cases h1 : k1 = 3
 ·rw [if_pos h1] at hA hU
  by_cases h2 : k2 = 3
  ·rw [if_pos h2] at hA hU
   obtain ⟨rfl, hb1⟩ := hA
   have cw := cW h1 h2 W1
   have HR1 : Hid (W1.heap[w.heap.size + 2]? = some (.cells #[.int .i64 0, .bool false, .int .i64 0, .string ⟨#[]⟩, .slice none 0 0, .slice none 0 0] 46 (0, 0))) := (hb1.block (w.heap.size + 2) (by omega)).trans HR.out
   have hs1 := hb1.size
   have HB1 : Hid (Below w.heap.size w W1) := HB.out.trans (hb1.mono HB.out.size)
   clear hb1 HR HB h1 h2 cW p0 p1 p2 p3 p4 p5 q0 q1 q2 q3 q4 q5
   go_wp2_with fail
   refine cw.mono ?_
   rintro e W2 ⟨rfl, rfl⟩
   clear cw
   have cK := cK W2
   unfold chkI at hU
   rw [hU] at cK
   have hU2 := hU
   clear hU
   go_wp2_with fail
   refine cK.mono ?_
   intro e W3 hA
   clear cK
   cases U with
   | error c =>
    obtain ⟨rfl, hb3⟩ := hA
    exact ⟨rfl, rfl, HB1.out.trans (hb3.mono HB1.out.size)⟩
   | ok y =>
    obtain ⟨rfl, hb3⟩ := hA
    have hr := (hb3.block (w.heap.size + 2) (by omega)).trans HR1.out
    have HB3 : Hid (Below w.heap.size w W3) := HB1.out.trans (hb3.mono HB1.out.size)
    clear hb3 HB1 HR1 hU2
    obtain ⟨r0, r1, r2, r3, r4, r5⟩ := six_box hr
    have rf0 := frozen_box hr 0
    have rf1 := frozen_box hr 1
    have rf2 := frozen_box hr 2
    have rf3 := frozen_box hr 3
    have rf4 := frozen_box hr 4
    have rf5 := frozen_box hr 5
    go_wp2_with fail
    obtain ⟨W9, hW9⟩ : ∃ W9, ((((((W3.setCell ⟨w.heap.size + 2, 0, none⟩ (.int .i64 3)).setCell ⟨w.heap.size + 2, 1, none⟩ (.bool false)).setCell ⟨w.heap.size + 2, 2, none⟩ (.int .i64 y)).setCell ⟨w.heap.size + 2, 3, none⟩ (.string ⟨#[]⟩)).setCell ⟨w.heap.size + 2, 4, none⟩ (.slice none 0 0)).setCell ⟨w.heap.size + 2, 5, none⟩ (.slice none 0 0)) = W9 := ⟨_, rfl⟩
    rw [hW9]
    obtain ⟨q1, q2, q3, q4⟩ := set6 _ _ _ _ _ _ hr hW9
    refine out_ret (results_cell_row rfl _ W9 (w.heap.size + 2) 46 _ (0, 0) _ rfl q1 underlying46 rfl (by kernel_rfl)) rfl ?_
    exact ⟨rfl, q4 _ _ (by omega) HB3.out⟩
  ·rw [if_neg h2] at hA hU
   obtain ⟨rfl, hb1⟩ := hA
   subst hU
   exact ⟨rfl, rfl, HB.out.trans (hb1.mono HB.out.size)⟩
 ·rw [if_neg h1] at hA hU
  obtain ⟨rfl, hb1⟩ := hA
  subst hU
  exact ⟨rfl, rfl, HB.out.trans (hb1.mono HB.out.size)⟩
theorem pair_Div (k1 : Int) (b1 : Bool) (i1 : Int) (s1 : ByteArray) (n1 l1 : Value) (k2 : Int) (b2 : Bool) (i2 : Int) (s2 : ByteArray) (n2 l2 : Value) (w : World) (x e0 : Int) (cW : k1 = 3 -> k2 = 3 -> ∀ W : World, Calls prog 110 #[.int .i64 i1, .int .i64 i2] W fun e w' => e = .returned (.tuple #[.int .i64 x, .int .i64 e0]) /\ w' = W) :
  Calls prog 90 #[.int .i64 13, vl k1 b1 i1 s1 n1 l1, vl k2 b2 i2 s2 n2 l2] w fun e w' => An w w' e (fun c : Int => v0 3 false c ⟨#[]⟩) (twI k1 k2 x e0) := by
 obtain ⟨W0, hW0, hs0, hb0, hp, hq, hr⟩ := two3 w #[.int .i64 k1, .bool b1, .int .i64 i1, .string s1, n1, l1] #[.int .i64 k2, .bool b2, .int .i64 i2, .string s2, n2, l2]
 have HR : Hid (W0.heap[w.heap.size + 2]? = some (.cells #[.int .i64 0, .bool false, .int .i64 0, .string ⟨#[]⟩, .slice none 0 0, .slice none 0 0] 46 (0, 0))) := hr
 have HB : Hid (Below w.heap.size w W0) := hb0
 obtain ⟨p0, p1, p2, p3, p4, p5⟩ := six_box hp
 obtain ⟨q0, q1, q2, q3, q4, q5⟩ := six_box hq
 have cI := integers_c k1 b1 i1 s1 n1 l1 k2 b2 i2 s2 n2 l2 W0
 have cK := checked_c x e0
 obtain ⟨U, hU⟩ : ∃ U, twI k1 k2 x e0 = U := ⟨_, rfl⟩
 rw [hU]
 unfold twI at hU
 clear hp hq hb0 hr
 go_enter func90, ntmps90
 go_upto_if 23 with fail
 refine wp_cond_true (by rfl) ?_
 refine wp_exit ?_
 repeat (first | (with_reducible refine ex_then ?_) | (with_reducible refine ex_skip (by decide) ?_))
 refine ex_hit ?_
 refine ex_norm ?_
 apply_assumption
 refine wp_mono (Q := Out ?outB) ?outM (out_mono ?outR ?outP)
 case outR => intro a w h; (repeat (first | (with_reducible refine rt_then ?_) | (with_reducible refine rt_blk ?_))); exact h
 case outP => intro c a w h; (repeat (first | (with_reducible refine pn_then ?_) | (with_reducible refine pn_blk ?_))); exact h
 try simp only [hW0]
 go_wp2_with fail
 try rw [hW0]
 refine cI.mono ?_
 intro e W1 hA
 clear cI
 by_cases h1 : k1 = 3
 ·rw [if_pos h1] at hA hU
  by_cases h2 : k2 = 3
  ·rw [if_pos h2] at hA hU
   obtain ⟨rfl, hb1⟩ := hA
   have cw := cW h1 h2 W1
   have HR1 : Hid (W1.heap[w.heap.size + 2]? = some (.cells #[.int .i64 0, .bool false, .int .i64 0, .string ⟨#[]⟩, .slice none 0 0, .slice none 0 0] 46 (0, 0))) := (hb1.block (w.heap.size + 2) (by omega)).trans HR.out
   have hs1 := hb1.size
   have HB1 : Hid (Below w.heap.size w W1) := HB.out.trans (hb1.mono HB.out.size)
   clear hb1 HR HB h1 h2 cW p0 p1 p2 p3 p4 p5 q0 q1 q2 q3 q4 q5
   go_wp2_with fail
   refine cw.mono ?_
   rintro e W2 ⟨rfl, rfl⟩
   clear cw
   have cK := cK W2
   unfold chkI at hU
   rw [hU] at cK
   have hU2 := hU
   clear hU
   go_wp2_with fail
   refine cK.mono ?_
   intro e W3 hA
   clear cK
   cases U with
   | error c =>
    obtain ⟨rfl, hb3⟩ := hA
    exact ⟨rfl, rfl, HB1.out.trans (hb3.mono HB1.out.size)⟩
   | ok y =>
    obtain ⟨rfl, hb3⟩ := hA
    have hr := (hb3.block (w.heap.size + 2) (by omega)).trans HR1.out
    have HB3 : Hid (Below w.heap.size w W3) := HB1.out.trans (hb3.mono HB1.out.size)
    clear hb3 HB1 HR1 hU2
    obtain ⟨r0, r1, r2, r3, r4, r5⟩ := six_box hr
    have rf0 := frozen_box hr 0
    have rf1 := frozen_box hr 1
    have rf2 := frozen_box hr 2
    have rf3 := frozen_box hr 3
    have rf4 := frozen_box hr 4
    have rf5 := frozen_box hr 5
    go_wp2_with fail
    obtain ⟨W9, hW9⟩ : ∃ W9, ((((((W3.setCell ⟨w.heap.size + 2, 0, none⟩ (.int .i64 3)).setCell ⟨w.heap.size + 2, 1, none⟩ (.bool false)).setCell ⟨w.heap.size + 2, 2, none⟩ (.int .i64 y)).setCell ⟨w.heap.size + 2, 3, none⟩ (.string ⟨#[]⟩)).setCell ⟨w.heap.size + 2, 4, none⟩ (.slice none 0 0)).setCell ⟨w.heap.size + 2, 5, none⟩ (.slice none 0 0)) = W9 := ⟨_, rfl⟩
    rw [hW9]
    obtain ⟨q1, q2, q3, q4⟩ := set6 _ _ _ _ _ _ hr hW9
    refine out_ret (results_cell_row rfl _ W9 (w.heap.size + 2) 46 _ (0, 0) _ rfl q1 underlying46 rfl (by kernel_rfl)) rfl ?_
    exact ⟨rfl, q4 _ _ (by omega) HB3.out⟩
  ·rw [if_neg h2] at hA hU
   obtain ⟨rfl, hb1⟩ := hA
   subst hU
   exact ⟨rfl, rfl, HB.out.trans (hb1.mono HB.out.size)⟩
 ·rw [if_neg h1] at hA hU
  obtain ⟨rfl, hb1⟩ := hA
  subst hU
  exact ⟨rfl, rfl, HB.out.trans (hb1.mono HB.out.size)⟩
theorem pair_Mod (k1 : Int) (b1 : Bool) (i1 : Int) (s1 : ByteArray) (n1 l1 : Value) (k2 : Int) (b2 : Bool) (i2 : Int) (s2 : ByteArray) (n2 l2 : Value) (w : World) (x e0 : Int) (cW : k1 = 3 -> k2 = 3 -> ∀ W : World, Calls prog 111 #[.int .i64 i1, .int .i64 i2] W fun e w' => e = .returned (.tuple #[.int .i64 x, .int .i64 e0]) /\ w' = W) :
  Calls prog 90 #[.int .i64 14, vl k1 b1 i1 s1 n1 l1, vl k2 b2 i2 s2 n2 l2] w fun e w' => An w w' e (fun c : Int => v0 3 false c ⟨#[]⟩) (twI k1 k2 x e0) := by
 obtain ⟨W0, hW0, hs0, hb0, hp, hq, hr⟩ := two3 w #[.int .i64 k1, .bool b1, .int .i64 i1, .string s1, n1, l1] #[.int .i64 k2, .bool b2, .int .i64 i2, .string s2, n2, l2]
 have HR : Hid (W0.heap[w.heap.size + 2]? = some (.cells #[.int .i64 0, .bool false, .int .i64 0, .string ⟨#[]⟩, .slice none 0 0, .slice none 0 0] 46 (0, 0))) := hr
 have HB : Hid (Below w.heap.size w W0) := hb0
 obtain ⟨p0, p1, p2, p3, p4, p5⟩ := six_box hp
 obtain ⟨q0, q1, q2, q3, q4, q5⟩ := six_box hq
 have cI := integers_c k1 b1 i1 s1 n1 l1 k2 b2 i2 s2 n2 l2 W0
 have cK := checked_c x e0
 obtain ⟨U, hU⟩ : ∃ U, twI k1 k2 x e0 = U := ⟨_, rfl⟩
 rw [hU]
 unfold twI at hU
 clear hp hq hb0 hr
 go_enter func90, ntmps90
 go_upto_if 25 with fail
 refine wp_cond_true (by rfl) ?_
 refine wp_exit ?_
 repeat (first | (with_reducible refine ex_then ?_) | (with_reducible refine ex_skip (by decide) ?_))
 refine ex_hit ?_
 refine ex_norm ?_
 apply_assumption
 refine wp_mono (Q := Out ?outB) ?outM (out_mono ?outR ?outP)
 case outR => intro a w h; (repeat (first | (with_reducible refine rt_then ?_) | (with_reducible refine rt_blk ?_))); exact h
 case outP => intro c a w h; (repeat (first | (with_reducible refine pn_then ?_) | (with_reducible refine pn_blk ?_))); exact h
 try simp only [hW0]
 go_wp2_with fail
 try rw [hW0]
 refine cI.mono ?_
 intro e W1 hA
 clear cI
 by_cases h1 : k1 = 3
 ·rw [if_pos h1] at hA hU
  by_cases h2 : k2 = 3
  ·rw [if_pos h2] at hA hU
   obtain ⟨rfl, hb1⟩ := hA
   have cw := cW h1 h2 W1
   have HR1 : Hid (W1.heap[w.heap.size + 2]? = some (.cells #[.int .i64 0, .bool false, .int .i64 0, .string ⟨#[]⟩, .slice none 0 0, .slice none 0 0] 46 (0, 0))) := (hb1.block (w.heap.size + 2) (by omega)).trans HR.out
   have hs1 := hb1.size
   have HB1 : Hid (Below w.heap.size w W1) := HB.out.trans (hb1.mono HB.out.size)
   clear hb1 HR HB h1 h2 cW p0 p1 p2 p3 p4 p5 q0 q1 q2 q3 q4 q5
   go_wp2_with fail
   refine cw.mono ?_
   rintro e W2 ⟨rfl, rfl⟩
   clear cw
   have cK := cK W2
   unfold chkI at hU
   rw [hU] at cK
   have hU2 := hU
   clear hU
   go_wp2_with fail
   refine cK.mono ?_
   intro e W3 hA
   clear cK
   cases U with
   | error c =>
    obtain ⟨rfl, hb3⟩ := hA
    exact ⟨rfl, rfl, HB1.out.trans (hb3.mono HB1.out.size)⟩
   | ok y =>
    obtain ⟨rfl, hb3⟩ := hA
    have hr := (hb3.block (w.heap.size + 2) (by omega)).trans HR1.out
    have HB3 : Hid (Below w.heap.size w W3) := HB1.out.trans (hb3.mono HB1.out.size)
    clear hb3 HB1 HR1 hU2
    obtain ⟨r0, r1, r2, r3, r4, r5⟩ := six_box hr
    have rf0 := frozen_box hr 0
    have rf1 := frozen_box hr 1
    have rf2 := frozen_box hr 2
    have rf3 := frozen_box hr 3
    have rf4 := frozen_box hr 4
    have rf5 := frozen_box hr 5
    go_wp2_with fail
    obtain ⟨W9, hW9⟩ : ∃ W9, ((((((W3.setCell ⟨w.heap.size + 2, 0, none⟩ (.int .i64 3)).setCell ⟨w.heap.size + 2, 1, none⟩ (.bool false)).setCell ⟨w.heap.size + 2, 2, none⟩ (.int .i64 y)).setCell ⟨w.heap.size + 2, 3, none⟩ (.string ⟨#[]⟩)).setCell ⟨w.heap.size + 2, 4, none⟩ (.slice none 0 0)).setCell ⟨w.heap.size + 2, 5, none⟩ (.slice none 0 0)) = W9 := ⟨_, rfl⟩
    rw [hW9]
    obtain ⟨q1, q2, q3, q4⟩ := set6 _ _ _ _ _ _ hr hW9
    refine out_ret (results_cell_row rfl _ W9 (w.heap.size + 2) 46 _ (0, 0) _ rfl q1 underlying46 rfl (by kernel_rfl)) rfl ?_
    exact ⟨rfl, q4 _ _ (by omega) HB3.out⟩
  ·rw [if_neg h2] at hA hU
   obtain ⟨rfl, hb1⟩ := hA
   subst hU
   exact ⟨rfl, rfl, HB.out.trans (hb1.mono HB.out.size)⟩
 ·rw [if_neg h1] at hA hU
  obtain ⟨rfl, hb1⟩ := hA
  subst hU
  exact ⟨rfl, rfl, HB.out.trans (hb1.mono HB.out.size)⟩
theorem pair_Shl (k1 : Int) (b1 : Bool) (i1 : Int) (s1 : ByteArray) (n1 l1 : Value) (k2 : Int) (b2 : Bool) (i2 : Int) (s2 : ByteArray) (n2 l2 : Value) (w : World) (x e0 : Int) (cW : k1 = 3 -> k2 = 3 -> ∀ W : World, Calls prog 112 #[.int .i64 i1, .int .i64 i2] W fun e w' => e = .returned (.tuple #[.int .i64 x, .int .i64 e0]) /\ w' = W) :
  Calls prog 90 #[.int .i64 18, vl k1 b1 i1 s1 n1 l1, vl k2 b2 i2 s2 n2 l2] w fun e w' => An w w' e (fun c : Int => v0 3 false c ⟨#[]⟩) (twI k1 k2 x e0) := by
 obtain ⟨W0, hW0, hs0, hb0, hp, hq, hr⟩ := two3 w #[.int .i64 k1, .bool b1, .int .i64 i1, .string s1, n1, l1] #[.int .i64 k2, .bool b2, .int .i64 i2, .string s2, n2, l2]
 have HR : Hid (W0.heap[w.heap.size + 2]? = some (.cells #[.int .i64 0, .bool false, .int .i64 0, .string ⟨#[]⟩, .slice none 0 0, .slice none 0 0] 46 (0, 0))) := hr
 have HB : Hid (Below w.heap.size w W0) := hb0
 obtain ⟨p0, p1, p2, p3, p4, p5⟩ := six_box hp
 obtain ⟨q0, q1, q2, q3, q4, q5⟩ := six_box hq
 have cI := integers_c k1 b1 i1 s1 n1 l1 k2 b2 i2 s2 n2 l2 W0
 have cK := checked_c x e0
 obtain ⟨U, hU⟩ : ∃ U, twI k1 k2 x e0 = U := ⟨_, rfl⟩
 rw [hU]
 unfold twI at hU
 clear hp hq hb0 hr
 go_enter func90, ntmps90
 go_upto_if 27 with fail
 refine wp_cond_true (by rfl) ?_
 refine wp_exit ?_
 repeat (first | (with_reducible refine ex_then ?_) | (with_reducible refine ex_skip (by decide) ?_))
 refine ex_hit ?_
 refine ex_norm ?_
 apply_assumption
 refine wp_mono (Q := Out ?outB) ?outM (out_mono ?outR ?outP)
 case outR => intro a w h; (repeat (first | (with_reducible refine rt_then ?_) | (with_reducible refine rt_blk ?_))); exact h
 case outP => intro c a w h; (repeat (first | (with_reducible refine pn_then ?_) | (with_reducible refine pn_blk ?_))); exact h
 try simp only [hW0]
 go_wp2_with fail
 try rw [hW0]
 refine cI.mono ?_
 intro e W1 hA
 clear cI
 by_cases h1 : k1 = 3
 ·rw [if_pos h1] at hA hU
  by_cases h2 : k2 = 3
  ·rw [if_pos h2] at hA hU
   obtain ⟨rfl, hb1⟩ := hA
   have cw := cW h1 h2 W1
   have HR1 : Hid (W1.heap[w.heap.size + 2]? = some (.cells #[.int .i64 0, .bool false, .int .i64 0, .string ⟨#[]⟩, .slice none 0 0, .slice none 0 0] 46 (0, 0))) := (hb1.block (w.heap.size + 2) (by omega)).trans HR.out
   have hs1 := hb1.size
   have HB1 : Hid (Below w.heap.size w W1) := HB.out.trans (hb1.mono HB.out.size)
   clear hb1 HR HB h1 h2 cW p0 p1 p2 p3 p4 p5 q0 q1 q2 q3 q4 q5
   go_wp2_with fail
   refine cw.mono ?_
   rintro e W2 ⟨rfl, rfl⟩
   clear cw
   have cK := cK W2
   unfold chkI at hU
   rw [hU] at cK
   have hU2 := hU
   clear hU
   go_wp2_with fail
   refine cK.mono ?_
   intro e W3 hA
   clear cK
   cases U with
   | error c =>
    obtain ⟨rfl, hb3⟩ := hA
    exact ⟨rfl, rfl, HB1.out.trans (hb3.mono HB1.out.size)⟩
   | ok y =>
    obtain ⟨rfl, hb3⟩ := hA
    have hr := (hb3.block (w.heap.size + 2) (by omega)).trans HR1.out
    have HB3 : Hid (Below w.heap.size w W3) := HB1.out.trans (hb3.mono HB1.out.size)
    clear hb3 HB1 HR1 hU2
    obtain ⟨r0, r1, r2, r3, r4, r5⟩ := six_box hr
    have rf0 := frozen_box hr 0
    have rf1 := frozen_box hr 1
    have rf2 := frozen_box hr 2
    have rf3 := frozen_box hr 3
    have rf4 := frozen_box hr 4
    have rf5 := frozen_box hr 5
    go_wp2_with fail
    obtain ⟨W9, hW9⟩ : ∃ W9, ((((((W3.setCell ⟨w.heap.size + 2, 0, none⟩ (.int .i64 3)).setCell ⟨w.heap.size + 2, 1, none⟩ (.bool false)).setCell ⟨w.heap.size + 2, 2, none⟩ (.int .i64 y)).setCell ⟨w.heap.size + 2, 3, none⟩ (.string ⟨#[]⟩)).setCell ⟨w.heap.size + 2, 4, none⟩ (.slice none 0 0)).setCell ⟨w.heap.size + 2, 5, none⟩ (.slice none 0 0)) = W9 := ⟨_, rfl⟩
    rw [hW9]
    obtain ⟨q1, q2, q3, q4⟩ := set6 _ _ _ _ _ _ hr hW9
    refine out_ret (results_cell_row rfl _ W9 (w.heap.size + 2) 46 _ (0, 0) _ rfl q1 underlying46 rfl (by kernel_rfl)) rfl ?_
    exact ⟨rfl, q4 _ _ (by omega) HB3.out⟩
  ·rw [if_neg h2] at hA hU
   obtain ⟨rfl, hb1⟩ := hA
   subst hU
   exact ⟨rfl, rfl, HB.out.trans (hb1.mono HB.out.size)⟩
 ·rw [if_neg h1] at hA hU
  obtain ⟨rfl, hb1⟩ := hA
  subst hU
  exact ⟨rfl, rfl, HB.out.trans (hb1.mono HB.out.size)⟩
theorem pair_Shr (k1 : Int) (b1 : Bool) (i1 : Int) (s1 : ByteArray) (n1 l1 : Value) (k2 : Int) (b2 : Bool) (i2 : Int) (s2 : ByteArray) (n2 l2 : Value) (w : World) (x e0 : Int) (cW : k1 = 3 -> k2 = 3 -> ∀ W : World, Calls prog 113 #[.int .i64 i1, .int .i64 i2] W fun e w' => e = .returned (.tuple #[.int .i64 x, .int .i64 e0]) /\ w' = W) :
  Calls prog 90 #[.int .i64 19, vl k1 b1 i1 s1 n1 l1, vl k2 b2 i2 s2 n2 l2] w fun e w' => An w w' e (fun c : Int => v0 3 false c ⟨#[]⟩) (twI k1 k2 x e0) := by
 obtain ⟨W0, hW0, hs0, hb0, hp, hq, hr⟩ := two3 w #[.int .i64 k1, .bool b1, .int .i64 i1, .string s1, n1, l1] #[.int .i64 k2, .bool b2, .int .i64 i2, .string s2, n2, l2]
 have HR : Hid (W0.heap[w.heap.size + 2]? = some (.cells #[.int .i64 0, .bool false, .int .i64 0, .string ⟨#[]⟩, .slice none 0 0, .slice none 0 0] 46 (0, 0))) := hr
 have HB : Hid (Below w.heap.size w W0) := hb0
 obtain ⟨p0, p1, p2, p3, p4, p5⟩ := six_box hp
 obtain ⟨q0, q1, q2, q3, q4, q5⟩ := six_box hq
 have cI := integers_c k1 b1 i1 s1 n1 l1 k2 b2 i2 s2 n2 l2 W0
 have cK := checked_c x e0
 obtain ⟨U, hU⟩ : ∃ U, twI k1 k2 x e0 = U := ⟨_, rfl⟩
 rw [hU]
 unfold twI at hU
 clear hp hq hb0 hr
 go_enter func90, ntmps90
 go_upto_if 29 with fail
 refine wp_cond_true (by rfl) ?_
 refine wp_exit ?_
 repeat (first | (with_reducible refine ex_then ?_) | (with_reducible refine ex_skip (by decide) ?_))
 refine ex_hit ?_
 refine ex_norm ?_
 apply_assumption
 refine wp_mono (Q := Out ?outB) ?outM (out_mono ?outR ?outP)
 case outR => intro a w h; (repeat (first | (with_reducible refine rt_then ?_) | (with_reducible refine rt_blk ?_))); exact h
 case outP => intro c a w h; (repeat (first | (with_reducible refine pn_then ?_) | (with_reducible refine pn_blk ?_))); exact h
 try simp only [hW0]
 go_wp2_with fail
 try rw [hW0]
 refine cI.mono ?_
 intro e W1 hA
 clear cI
 by_cases h1 : k1 = 3
 ·rw [if_pos h1] at hA hU
  by_cases h2 : k2 = 3
  ·rw [if_pos h2] at hA hU
   obtain ⟨rfl, hb1⟩ := hA
   have cw := cW h1 h2 W1
   have HR1 : Hid (W1.heap[w.heap.size + 2]? = some (.cells #[.int .i64 0, .bool false, .int .i64 0, .string ⟨#[]⟩, .slice none 0 0, .slice none 0 0] 46 (0, 0))) := (hb1.block (w.heap.size + 2) (by omega)).trans HR.out
   have hs1 := hb1.size
   have HB1 : Hid (Below w.heap.size w W1) := HB.out.trans (hb1.mono HB.out.size)
   clear hb1 HR HB h1 h2 cW p0 p1 p2 p3 p4 p5 q0 q1 q2 q3 q4 q5
   go_wp2_with fail
   refine cw.mono ?_
   rintro e W2 ⟨rfl, rfl⟩
   clear cw
   have cK := cK W2
   unfold chkI at hU
   rw [hU] at cK
   have hU2 := hU
   clear hU
   go_wp2_with fail
   refine cK.mono ?_
   intro e W3 hA
   clear cK
   cases U with
   | error c =>
    obtain ⟨rfl, hb3⟩ := hA
    exact ⟨rfl, rfl, HB1.out.trans (hb3.mono HB1.out.size)⟩
   | ok y =>
    obtain ⟨rfl, hb3⟩ := hA
    have hr := (hb3.block (w.heap.size + 2) (by omega)).trans HR1.out
    have HB3 : Hid (Below w.heap.size w W3) := HB1.out.trans (hb3.mono HB1.out.size)
    clear hb3 HB1 HR1 hU2
    obtain ⟨r0, r1, r2, r3, r4, r5⟩ := six_box hr
    have rf0 := frozen_box hr 0
    have rf1 := frozen_box hr 1
    have rf2 := frozen_box hr 2
    have rf3 := frozen_box hr 3
    have rf4 := frozen_box hr 4
    have rf5 := frozen_box hr 5
    go_wp2_with fail
    obtain ⟨W9, hW9⟩ : ∃ W9, ((((((W3.setCell ⟨w.heap.size + 2, 0, none⟩ (.int .i64 3)).setCell ⟨w.heap.size + 2, 1, none⟩ (.bool false)).setCell ⟨w.heap.size + 2, 2, none⟩ (.int .i64 y)).setCell ⟨w.heap.size + 2, 3, none⟩ (.string ⟨#[]⟩)).setCell ⟨w.heap.size + 2, 4, none⟩ (.slice none 0 0)).setCell ⟨w.heap.size + 2, 5, none⟩ (.slice none 0 0)) = W9 := ⟨_, rfl⟩
    rw [hW9]
    obtain ⟨q1, q2, q3, q4⟩ := set6 _ _ _ _ _ _ hr hW9
    refine out_ret (results_cell_row rfl _ W9 (w.heap.size + 2) 46 _ (0, 0) _ rfl q1 underlying46 rfl (by kernel_rfl)) rfl ?_
    exact ⟨rfl, q4 _ _ (by omega) HB3.out⟩
  ·rw [if_neg h2] at hA hU
   obtain ⟨rfl, hb1⟩ := hA
   subst hU
   exact ⟨rfl, rfl, HB.out.trans (hb1.mono HB.out.size)⟩
 ·rw [if_neg h1] at hA hU
  obtain ⟨rfl, hb1⟩ := hA
  subst hU
  exact ⟨rfl, rfl, HB.out.trans (hb1.mono HB.out.size)⟩
end Go.Proofs.YthjbknncbhkinaaGreatDoor.VPn

import Derived.Deep.CutRange
import Derived.Deep.RegionHeld3
import Derived.Test.YtiijfmdfccdagaaGreatDoorPA01
import Derived.Test.YtiijfmdfccdagaaGreatDoorPA03
open Go.Proofs.Tryz
set_option linter.unusedVariables false
set_option maxRecDepth 20000
set_option maxHeartbeats 3200000
namespace Go.Proofs.YtiijfmdfccdagaaGreatDoor.VIn
open Tak
open Go.RowKit Base VSm
theorem bel_d {w W0 W1 : World} (h : Below w.heap.size w W0) (k : Below W0.drew.heap.size W0.drew W1) : Below w.heap.size w W1 :=
 (⟨h.os, h.tape, h.output, h.size, h.block⟩ : Below w.heap.size w W0.drew).trans (k.mono h.size)
theorem integers_c (k1 : Int) (b1 : Bool) (i1 : Int) (s1 : ByteArray) (n1 l1 : Value) (k2 : Int) (b2 : Bool) (i2 : Int) (s2 : ByteArray) (n2 l2 : Value) (w : World) : Calls prog 123 #[vl k1 b1 i1 s1 n1 l1, vl k2 b2 i2 s2 n2 l2] w fun e w' => An w w' e (fun p : Int × Int => .tuple #[.int .i64 p.1, .int .i64 p.2]) (if k1 = 3 then (if k2 = 3 then .ok (i1, i2) else .error 1101) else .error 1101) := by
 obtain ⟨W0, hW0, hs0, hb0, hp, hq⟩ := two2 w #[.int .i64 k1, .bool b1, .int .i64 i1, .string s1, n1, l1] #[.int .i64 k2, .bool b2, .int .i64 i2, .string s2, n2, l2]
 have HP := hid hp
 have HQ := hid hq
 have HB := hid hb0
 have hsD : W0.drew.heap.size = w.heap.size + 2 := by simp [hs0]
 obtain ⟨p0, p1, p2, p3, p4, p5⟩ := six_box hp
 obtain ⟨q0, q1, q2, q3, q4, q5⟩ := six_box hq
 clear hp hq hb0
 have c1 := fun W => integer_c k1 b1 i1 s1 n1 l1 W
 have c2 := fun W => integer_c k2 b2 i2 s2 n2 l2 W
 by_cases h1 : k1 = 3
 ·rw [if_pos h1] at c1
  rw [if_pos h1]
  clear h1
  by_cases h2 : k2 = 3
  ·rw [if_pos h2] at c2
   rw [if_pos h2]
   clear h2
   go_enter func123, ntmps123
   go_wp2_with fail
   try rw [hW0]
   refine rh12 w.heap.size (w.heap.size + 1) k1 b1 i1 s1 n1 l1 k2 b2 i2 s2 n2 l2 (by kernel_rfl) (by first | assumption | go_keep) (fun hHeld => ?_)
   refine tkH 0 rfl ?_; try simp only [ptH]
   refine tkH 2 rfl ?_; try simp only [ptH]
   refine rdH [1] ?_
   refine alH rfl fun K hK => ?_
   go_simp
   refine (c1 _).mono ?_
   rintro e W1 ⟨rfl, hb1⟩
   have hp1 := (hb1.block w.heap.size (by rw [hsD]; omega)).trans HP.out
   have hq1 := (hb1.block (w.heap.size + 1) (by rw [hsD]; omega)).trans HQ.out
   obtain ⟨x0, x1, x2, x3, x4, x5⟩ := six_box hp1
   obtain ⟨y0, y1, y2, y3, y4, y5⟩ := six_box hq1
   have HB1 := hid (bel_d HB.out hb1)
   have HP1 := hid hp1
   have HQ1 := hid hq1
   have hs1 := hb1.size
   rw [hsD] at hs1
   clear hp1 hq1 hb1
   go_wp2_with fail
   refine hK.out _ _ (by first | assumption | go_keep) (fun hHeld => ?_)
   clear hK K
   try simp only [ptH]
   refine rdH [3] ?_
   refine alH rfl fun K hK => ?_
   go_simp
   refine (c2 _).mono ?_
   rintro e W2 ⟨rfl, hb2⟩
   obtain ⟨z0, z1, z2, z3, z4, z5⟩ := six_box ((hb2.block w.heap.size (by omega)).trans HP1.out)
   obtain ⟨t0, t1, t2, t3, t4, t5⟩ := six_box ((hb2.block (w.heap.size + 1) (by omega)).trans HQ1.out)
   have HB2 := hid (HB1.out.trans (hb2.mono HB1.out.size))
   clear hb2
   go_wp2_with fail
   refine hK.out _ _ (by first | assumption | go_keep) (fun hHeld => ?_)
   clear hK K
   try simp only [ptH]
   refine tkH 4 rfl ?_; try simp only [ptH]
   refine tkH 5 rfl ?_; try simp only [ptH]
   refine dnH ?_
   go_wp2_with fail
   go_ret2
   exact ⟨rfl, HB2.out⟩
  ·rw [if_neg h2] at c2
   rw [if_neg h2]
   clear h2
   go_enter func123, ntmps123
   go_wp2_with fail
   try rw [hW0]
   refine rh12 w.heap.size (w.heap.size + 1) k1 b1 i1 s1 n1 l1 k2 b2 i2 s2 n2 l2 (by kernel_rfl) (by first | assumption | go_keep) (fun hHeld => ?_)
   refine tkH 0 rfl ?_; try simp only [ptH]
   refine tkH 2 rfl ?_; try simp only [ptH]
   refine rdH [1] ?_
   refine alH rfl fun K hK => ?_
   go_simp
   refine (c1 _).mono ?_
   rintro e W1 ⟨rfl, hb1⟩
   have hp1 := (hb1.block w.heap.size (by rw [hsD]; omega)).trans HP.out
   have hq1 := (hb1.block (w.heap.size + 1) (by rw [hsD]; omega)).trans HQ.out
   obtain ⟨x0, x1, x2, x3, x4, x5⟩ := six_box hp1
   obtain ⟨y0, y1, y2, y3, y4, y5⟩ := six_box hq1
   have HB1 := hid (bel_d HB.out hb1)
   have HP1 := hid hp1
   have HQ1 := hid hq1
   have hs1 := hb1.size
   rw [hsD] at hs1
   clear hp1 hq1 hb1
   go_wp2_with fail
   refine hK.out _ _ (by first | assumption | go_keep) (fun hHeld => ?_)
   clear hK K
   try simp only [ptH]
   refine rdH [3] ?_
   refine alH rfl fun K hK => ?_
   go_simp
   refine (c2 _).mono ?_
   rintro e W2 ⟨rfl, hb2⟩
   exact ⟨rfl, rfl, HB1.out.trans (hb2.mono HB1.out.size)⟩
 ·rw [if_neg h1] at c1
  rw [if_neg h1]
  clear h1
  go_enter func123, ntmps123
  go_wp2_with fail
  try rw [hW0]
  refine rh12 w.heap.size (w.heap.size + 1) k1 b1 i1 s1 n1 l1 k2 b2 i2 s2 n2 l2 (by kernel_rfl) (by first | assumption | go_keep) (fun hHeld => ?_)
  refine tkH 0 rfl ?_; try simp only [ptH]
  refine tkH 2 rfl ?_; try simp only [ptH]
  refine rdH [1] ?_
  refine alH rfl fun K hK => ?_
  go_simp
  refine (c1 _).mono ?_
  rintro e W1 ⟨rfl, hb1⟩
  exact ⟨rfl, rfl, bel_d HB.out hb1⟩
end Go.Proofs.YtiijfmdfccdagaaGreatDoor.VIn
namespace Go.Proofs.YtiijfmdfccdagaaGreatDoor.VEx
open Go.RowKit
theorem ex_then {K : Act -> World -> Prop} {Q : Exit -> Act -> World -> Prop} {n : Nat} {a : Act} {w : World} (h : Q (.exit n) a w) : Exit.then K Q (.exit n) a w := h
theorem ex_skip {m n : Nat} {Q : Exit -> Act -> World -> Prop} {a : Act} {w : World} (hn : ¬ n = m) (h : Q (.exit n) a w) : Exit.inBlock m Q (.exit n) a w := by
 show (if n = m then Q .normal a w else Q (.exit n) a w)
 rw [if_neg hn]
 exact h
theorem ex_hit {n : Nat} {Q : Exit -> Act -> World -> Prop} {a : Act} {w : World} (h : Q .normal a w) : Exit.inBlock n Q (.exit n) a w := by
 show (if n = n then Q .normal a w else Q (.exit n) a w)
 rw [if_pos rfl]
 exact h
theorem ex_norm {K : Act -> World -> Prop} {Q : Exit -> Act -> World -> Prop} {a : Act} {w : World} (h : K a w) : Exit.then K Q .normal a w := h
theorem rt_then {K : Act -> World -> Prop} {Q : Exit -> Act -> World -> Prop} {a : Act} {w : World} (h : Q .ret a w) : Exit.then K Q .ret a w := h
theorem rt_blk {m : Nat} {Q : Exit -> Act -> World -> Prop} {a : Act} {w : World} (h : Q .ret a w) : Exit.inBlock m Q .ret a w := h
theorem pn_then {K : Act -> World -> Prop} {Q : Exit -> Act -> World -> Prop} {c : List PanicEntry} {a : Act} {w : World} (h : Q (.panic c) a w) : Exit.then K Q (.panic c) a w := h
theorem pn_blk {m : Nat} {Q : Exit -> Act -> World -> Prop} {c : List PanicEntry} {a : Act} {w : World} (h : Q (.panic c) a w) : Exit.inBlock m Q (.panic c) a w := h
def Out (B : Exit -> Act -> World -> Prop) : Exit -> Act -> World -> Prop
 | .ret, a, w => B .ret a w
 | .panic c, a, w => B (.panic c) a w
 | _, _, _ => False
theorem out_mono {B Q : Exit -> Act -> World -> Prop} (hr : ∀ a w, B .ret a w -> Q .ret a w) (hp : ∀ c a w, B (.panic c) a w -> Q (.panic c) a w) : ∀ e a w, Out B e a w -> Q e a w := by
 intro e a w h
 cases e with
 | ret => exact hr a w h
 | panic c => exact hp c a w h
 | _ => exact h.elim
theorem out_ret {P : Program} {fn : Func} {R : Ending -> World -> Prop} {a : Act} {w : World} {v : Value} (hr : (results fn a.tmps).run P w = .ok v w) (hd : a.defers = []) (hR : R (.returned v) w) : Out (bodyPost P fn R) .ret a w := bodyPost_ret hr hd hR
end Go.Proofs.YtiijfmdfccdagaaGreatDoor.VEx
namespace Go.Proofs.YtiijfmdfccdagaaGreatDoor.VPn
open Go.RowKit Base VPure VSm VIn VEx
theorem pair_Add (k1 : Int) (b1 : Bool) (i1 : Int) (s1 : ByteArray) (n1 l1 : Value) (k2 : Int) (b2 : Bool) (i2 : Int) (s2 : ByteArray) (n2 l2 : Value) (w : World) (x e0 : Int) (cW : k1 = 3 -> k2 = 3 -> ∀ W : World, Calls prog 124 #[.int .i64 i1, .int .i64 i2] W fun e w' => e = .returned (.tuple #[.int .i64 x, .int .i64 e0]) /\ w' = W) :
  Calls prog 94 #[.int .i64 15, vl k1 b1 i1 s1 n1 l1, vl k2 b2 i2 s2 n2 l2] w fun e w' => An w w' e (fun c : Int => v0 3 false c ⟨#[]⟩) (twI k1 k2 x e0) := by
 obtain ⟨W0, hW0, hs0, hb0, hp, hq, hr⟩ := two3 w #[.int .i64 k1, .bool b1, .int .i64 i1, .string s1, n1, l1] #[.int .i64 k2, .bool b2, .int .i64 i2, .string s2, n2, l2]
 have HR := hid hr
 have HB := hid hb0
 obtain ⟨p0, p1, p2, p3, p4, p5⟩ := six_box hp
 obtain ⟨q0, q1, q2, q3, q4, q5⟩ := six_box hq
 have cI := integers_c k1 b1 i1 s1 n1 l1 k2 b2 i2 s2 n2 l2 W0
 have cK := checked_c x e0
 obtain ⟨U, hU⟩ : ∃ U, twI k1 k2 x e0 = U := ⟨_, rfl⟩
 rw [hU]
 unfold twI at hU
 clear hp hq hb0 hr
 go_enter func94, ntmps94
 go_upto_if 19 with fail
 refine wp_cond_true (by rfl) ?_
 refine wp_exit ?_
 repeat (first | (with_reducible refine ex_then ?_) | (with_reducible refine ex_skip (by decide) ?_))
 refine ex_hit ?_
 refine ex_norm ?_
 apply_assumption
 refine wp_mono (Q := Out ?outB) ?outM (out_mono ?outR ?outP)
 case outR => intro a w h; (repeat (first | (with_reducible refine rt_then ?_) | (with_reducible refine rt_blk ?_))); exact h
 case outP => intro c a w h; (repeat (first | (with_reducible refine pn_then ?_) | (with_reducible refine pn_blk ?_))); exact h
 try simp only [hW0]
 go_wp2_with fail
 try rw [hW0]
 refine cI.mono ?_
 intro e W1 hA
 clear cI
 by_cases h1 : k1 = 3
 ·rw [if_pos h1] at hA hU
  by_cases h2 : k2 = 3
  ·rw [if_pos h2] at hA hU
   obtain ⟨rfl, hb1⟩ := hA
   have cw := cW h1 h2 W1
   have HR1 := hid ((hb1.block (w.heap.size + 2) (by omega)).trans HR.out)
   have hs1 := hb1.size
   have HB1 := hid (HB.out.trans (hb1.mono HB.out.size))
   clear hb1 HR HB h1 h2 cW p0 p1 p2 p3 p4 p5 q0 q1 q2 q3 q4 q5
   go_wp2_with fail
   refine cw.mono ?_
   rintro e W2 ⟨rfl, rfl⟩
   clear cw
   have cK := cK W2
   unfold chkI at hU
   rw [hU] at cK
   have hU2 := hU
   clear hU
   go_wp2_with fail
   refine cK.mono ?_
   intro e W3 hA
   clear cK
   cases U with
   | error c =>
    obtain ⟨rfl, hb3⟩ := hA
    exact ⟨rfl, rfl, HB1.out.trans (hb3.mono HB1.out.size)⟩
   | ok y =>
    obtain ⟨rfl, hb3⟩ := hA
    have hr := (hb3.block (w.heap.size + 2) (by omega)).trans HR1.out
    have HB3 := hid (HB1.out.trans (hb3.mono HB1.out.size))
    clear hb3 HB1 HR1 hU2
    obtain ⟨r0, r1, r2, r3, r4, r5⟩ := six_box hr
    obtain ⟨rf0, rf1, rf2, rf3, rf4, rf5⟩ := Base.frz6 hr
    go_wp2_with fail
    obtain ⟨W9, hW9⟩ := stc6 W3 (w.heap.size + 2) (.int .i64 3) (.bool false) (.int .i64 y) (.string ⟨#[]⟩) (.slice none 0 0) (.slice none 0 0)
    rw [hW9]
    obtain ⟨q1, q2, q3, q4⟩ := set6 _ _ _ _ _ _ hr hW9
    refine out_ret (results_cell_row rfl _ W9 (w.heap.size + 2) 26 _ (0, 0) _ rfl q1 underlying26 rfl (by kernel_rfl)) rfl ?_
    exact ⟨rfl, q4 _ _ (by omega) HB3.out⟩
  ·rw [if_neg h2] at hA hU
   obtain ⟨rfl, hb1⟩ := hA
   subst hU
   exact ⟨rfl, rfl, HB.out.trans (hb1.mono HB.out.size)⟩
 ·rw [if_neg h1] at hA hU
  obtain ⟨rfl, hb1⟩ := hA
  subst hU
  exact ⟨rfl, rfl, HB.out.trans (hb1.mono HB.out.size)⟩
theorem pair_Sub (k1 : Int) (b1 : Bool) (i1 : Int) (s1 : ByteArray) (n1 l1 : Value) (k2 : Int) (b2 : Bool) (i2 : Int) (s2 : ByteArray) (n2 l2 : Value) (w : World) (x e0 : Int) (cW : k1 = 3 -> k2 = 3 -> ∀ W : World, Calls prog 122 #[.int .i64 i1, .int .i64 i2] W fun e w' => e = .returned (.tuple #[.int .i64 x, .int .i64 e0]) /\ w' = W) :
  Calls prog 94 #[.int .i64 16, vl k1 b1 i1 s1 n1 l1, vl k2 b2 i2 s2 n2 l2] w fun e w' => An w w' e (fun c : Int => v0 3 false c ⟨#[]⟩) (twI k1 k2 x e0) := by
 obtain ⟨W0, hW0, hs0, hb0, hp, hq, hr⟩ := two3 w #[.int .i64 k1, .bool b1, .int .i64 i1, .string s1, n1, l1] #[.int .i64 k2, .bool b2, .int .i64 i2, .string s2, n2, l2]
 have HR := hid hr
 have HB := hid hb0
 obtain ⟨p0, p1, p2, p3, p4, p5⟩ := six_box hp
 obtain ⟨q0, q1, q2, q3, q4, q5⟩ := six_box hq
 have cI := integers_c k1 b1 i1 s1 n1 l1 k2 b2 i2 s2 n2 l2 W0
 have cK := checked_c x e0
 obtain ⟨U, hU⟩ : ∃ U, twI k1 k2 x e0 = U := ⟨_, rfl⟩
 rw [hU]
 unfold twI at hU
 clear hp hq hb0 hr
 go_enter func94, ntmps94
 go_upto_if 17 with fail
 refine wp_cond_true (by rfl) ?_
 refine wp_exit ?_
 repeat (first | (with_reducible refine ex_then ?_) | (with_reducible refine ex_skip (by decide) ?_))
 refine ex_hit ?_
 refine ex_norm ?_
 apply_assumption
 refine wp_mono (Q := Out ?outB) ?outM (out_mono ?outR ?outP)
 case outR => intro a w h; (repeat (first | (with_reducible refine rt_then ?_) | (with_reducible refine rt_blk ?_))); exact h
 case outP => intro c a w h; (repeat (first | (with_reducible refine pn_then ?_) | (with_reducible refine pn_blk ?_))); exact h
 try simp only [hW0]
 go_wp2_with fail
 try rw [hW0]
 refine cI.mono ?_
 intro e W1 hA
 clear cI
 by_cases h1 : k1 = 3
 ·rw [if_pos h1] at hA hU
  by_cases h2 : k2 = 3
  ·rw [if_pos h2] at hA hU
   obtain ⟨rfl, hb1⟩ := hA
   have cw := cW h1 h2 W1
   have HR1 := hid ((hb1.block (w.heap.size + 2) (by omega)).trans HR.out)
   have hs1 := hb1.size
   have HB1 := hid (HB.out.trans (hb1.mono HB.out.size))
   clear hb1 HR HB h1 h2 cW p0 p1 p2 p3 p4 p5 q0 q1 q2 q3 q4 q5
   go_wp2_with fail
   refine cw.mono ?_
   rintro e W2 ⟨rfl, rfl⟩
   clear cw
   have cK := cK W2
   unfold chkI at hU
   rw [hU] at cK
   have hU2 := hU
   clear hU
   go_wp2_with fail
   refine cK.mono ?_
   intro e W3 hA
   clear cK
   cases U with
   | error c =>
    obtain ⟨rfl, hb3⟩ := hA
    exact ⟨rfl, rfl, HB1.out.trans (hb3.mono HB1.out.size)⟩
   | ok y =>
    obtain ⟨rfl, hb3⟩ := hA
    have hr := (hb3.block (w.heap.size + 2) (by omega)).trans HR1.out
    have HB3 := hid (HB1.out.trans (hb3.mono HB1.out.size))
    clear hb3 HB1 HR1 hU2
    obtain ⟨r0, r1, r2, r3, r4, r5⟩ := six_box hr
    obtain ⟨rf0, rf1, rf2, rf3, rf4, rf5⟩ := Base.frz6 hr
    go_wp2_with fail
    obtain ⟨W9, hW9⟩ := stc6 W3 (w.heap.size + 2) (.int .i64 3) (.bool false) (.int .i64 y) (.string ⟨#[]⟩) (.slice none 0 0) (.slice none 0 0)
    rw [hW9]
    obtain ⟨q1, q2, q3, q4⟩ := set6 _ _ _ _ _ _ hr hW9
    refine out_ret (results_cell_row rfl _ W9 (w.heap.size + 2) 26 _ (0, 0) _ rfl q1 underlying26 rfl (by kernel_rfl)) rfl ?_
    exact ⟨rfl, q4 _ _ (by omega) HB3.out⟩
  ·rw [if_neg h2] at hA hU
   obtain ⟨rfl, hb1⟩ := hA
   subst hU
   exact ⟨rfl, rfl, HB.out.trans (hb1.mono HB.out.size)⟩
 ·rw [if_neg h1] at hA hU
  obtain ⟨rfl, hb1⟩ := hA
  subst hU
  exact ⟨rfl, rfl, HB.out.trans (hb1.mono HB.out.size)⟩
theorem pair_Mul (k1 : Int) (b1 : Bool) (i1 : Int) (s1 : ByteArray) (n1 l1 : Value) (k2 : Int) (b2 : Bool) (i2 : Int) (s2 : ByteArray) (n2 l2 : Value) (w : World) (x e0 : Int) (cW : k1 = 3 -> k2 = 3 -> ∀ W : World, Calls prog 125 #[.int .i64 i1, .int .i64 i2] W fun e w' => e = .returned (.tuple #[.int .i64 x, .int .i64 e0]) /\ w' = W) :
  Calls prog 94 #[.int .i64 12, vl k1 b1 i1 s1 n1 l1, vl k2 b2 i2 s2 n2 l2] w fun e w' => An w w' e (fun c : Int => v0 3 false c ⟨#[]⟩) (twI k1 k2 x e0) := by
 obtain ⟨W0, hW0, hs0, hb0, hp, hq, hr⟩ := two3 w #[.int .i64 k1, .bool b1, .int .i64 i1, .string s1, n1, l1] #[.int .i64 k2, .bool b2, .int .i64 i2, .string s2, n2, l2]
 have HR := hid hr
 have HB := hid hb0
 obtain ⟨p0, p1, p2, p3, p4, p5⟩ := six_box hp
 obtain ⟨q0, q1, q2, q3, q4, q5⟩ := six_box hq
 have cI := integers_c k1 b1 i1 s1 n1 l1 k2 b2 i2 s2 n2 l2 W0
 have cK := checked_c x e0
 obtain ⟨U, hU⟩ : ∃ U, twI k1 k2 x e0 = U := ⟨_, rfl⟩
 rw [hU]
 unfold twI at hU
 clear hp hq hb0 hr
 go_enter func94, ntmps94
 go_upto_if 21 with fail
 refine wp_cond_true (by rfl) ?_
 refine wp_exit ?_
 repeat (first | (with_reducible refine ex_then ?_) | (with_reducible refine ex_skip (by decide) ?_))
 refine ex_hit ?_
 refine ex_norm ?_
 apply_assumption
 refine wp_mono (Q := Out ?outB) ?outM (out_mono ?outR ?outP)
 case outR => intro a w h; (repeat (first | (with_reducible refine rt_then ?_) | (with_reducible refine rt_blk ?_))); exact h
 case outP => intro c a w h; (repeat (first | (with_reducible refine pn_then ?_) | (with_reducible refine pn_blk ?_))); exact h
 try simp only [hW0]
 go_wp2_with fail
 try rw [hW0]
 refine cI.mono ?_
 intro e W1 hA
 clear cI
 by_cases h1 : k1 = 3
 ·rw [if_pos h1] at hA hU
  by_cases h2 : k2 = 3
  ·rw [if_pos h2] at hA hU
   obtain ⟨rfl, hb1⟩ := hA
   have cw := cW h1 h2 W1
   have HR1 := hid ((hb1.block (w.heap.size + 2) (by omega)).trans HR.out)
   have hs1 := hb1.size
   have HB1 := hid (HB.out.trans (hb1.mono HB.out.size))
   clear hb1 HR HB h1 h2 cW p0 p1 p2 p3 p4 p5 q0 q1 q2 q3 q4 q5
   go_wp2_with fail
   refine cw.mono ?_
   rintro e W2 ⟨rfl, rfl⟩
   clear cw
   have cK := cK W2
   unfold chkI at hU
   rw [hU] at cK
   have hU2 := hU
   clear hU
   go_wp2_with fail
   refine cK.mono ?_
   intro e W3 hA
   clear cK
   cases U with
   | error c =>
    obtain ⟨rfl, hb3⟩ := hA
    exact ⟨rfl, rfl, HB1.out.trans (hb3.mono HB1.out.size)⟩
   | ok y =>
    obtain ⟨rfl, hb3⟩ := hA
    have hr := (hb3.block (w.heap.size + 2) (by omega)).trans HR1.out
    have HB3 := hid (HB1.out.trans (hb3.mono HB1.out.size))
    clear hb3 HB1 HR1 hU2
    obtain ⟨r0, r1, r2, r3, r4, r5⟩ := six_box hr
    obtain ⟨rf0, rf1, rf2, rf3, rf4, rf5⟩ := Base.frz6 hr
    go_wp2_with fail
    obtain ⟨W9, hW9⟩ := stc6 W3 (w.heap.size + 2) (.int .i64 3) (.bool false) (.int .i64 y) (.string ⟨#[]⟩) (.slice none 0 0) (.slice none 0 0)
    rw [hW9]
    obtain ⟨q1, q2, q3, q4⟩ := set6 _ _ _ _ _ _ hr hW9
    refine out_ret (results_cell_row rfl _ W9 (w.heap.size + 2) 26 _ (0, 0) _ rfl q1 underlying26 rfl (by kernel_rfl)) rfl ?_
    exact ⟨rfl, q4 _ _ (by omega) HB3.out⟩
  ·rw [if_neg h2] at hA hU
   obtain ⟨rfl, hb1⟩ := hA
   subst hU
   exact ⟨rfl, rfl, HB.out.trans (hb1.mono HB.out.size)⟩
 ·rw [if_neg h1] at hA hU
  obtain ⟨rfl, hb1⟩ := hA
  subst hU
  exact ⟨rfl, rfl, HB.out.trans (hb1.mono HB.out.size)⟩
theorem pair_Div (k1 : Int) (b1 : Bool) (i1 : Int) (s1 : ByteArray) (n1 l1 : Value) (k2 : Int) (b2 : Bool) (i2 : Int) (s2 : ByteArray) (n2 l2 : Value) (w : World) (x e0 : Int) (cW : k1 = 3 -> k2 = 3 -> ∀ W : World, Calls prog 126 #[.int .i64 i1, .int .i64 i2] W fun e w' => e = .returned (.tuple #[.int .i64 x, .int .i64 e0]) /\ w' = W) :
  Calls prog 94 #[.int .i64 13, vl k1 b1 i1 s1 n1 l1, vl k2 b2 i2 s2 n2 l2] w fun e w' => An w w' e (fun c : Int => v0 3 false c ⟨#[]⟩) (twI k1 k2 x e0) := by
 obtain ⟨W0, hW0, hs0, hb0, hp, hq, hr⟩ := two3 w #[.int .i64 k1, .bool b1, .int .i64 i1, .string s1, n1, l1] #[.int .i64 k2, .bool b2, .int .i64 i2, .string s2, n2, l2]
 have HR := hid hr
 have HB := hid hb0
 obtain ⟨p0, p1, p2, p3, p4, p5⟩ := six_box hp
 obtain ⟨q0, q1, q2, q3, q4, q5⟩ := six_box hq
 have cI := integers_c k1 b1 i1 s1 n1 l1 k2 b2 i2 s2 n2 l2 W0
 have cK := checked_c x e0
 obtain ⟨U, hU⟩ : ∃ U, twI k1 k2 x e0 = U := ⟨_, rfl⟩
 rw [hU]
 unfold twI at hU
 clear hp hq hb0 hr
 go_enter func94, ntmps94
 go_upto_if 23 with fail
 refine wp_cond_true (by rfl) ?_
 refine wp_exit ?_
 repeat (first | (with_reducible refine ex_then ?_) | (with_reducible refine ex_skip (by decide) ?_))
 refine ex_hit ?_
 refine ex_norm ?_
 apply_assumption
 refine wp_mono (Q := Out ?outB) ?outM (out_mono ?outR ?outP)
 case outR => intro a w h; (repeat (first | (with_reducible refine rt_then ?_) | (with_reducible refine rt_blk ?_))); exact h
 case outP => intro c a w h; (repeat (first | (with_reducible refine pn_then ?_) | (with_reducible refine pn_blk ?_))); exact h
 try simp only [hW0]
 go_wp2_with fail
 try rw [hW0]
 refine cI.mono ?_
 intro e W1 hA
 clear cI
 by_cases h1 : k1 = 3
 ·rw [if_pos h1] at hA hU
  by_cases h2 : k2 = 3
  ·rw [if_pos h2] at hA hU
   obtain ⟨rfl, hb1⟩ := hA
   have cw := cW h1 h2 W1
   have HR1 := hid ((hb1.block (w.heap.size + 2) (by omega)).trans HR.out)
   have hs1 := hb1.size
   have HB1 := hid (HB.out.trans (hb1.mono HB.out.size))
   clear hb1 HR HB h1 h2 cW p0 p1 p2 p3 p4 p5 q0 q1 q2 q3 q4 q5
   go_wp2_with fail
   refine cw.mono ?_
   rintro e W2 ⟨rfl, rfl⟩
   clear cw
   have cK := cK W2
   unfold chkI at hU
   rw [hU] at cK
   have hU2 := hU
   clear hU
   go_wp2_with fail
   refine cK.mono ?_
   intro e W3 hA
   clear cK
   cases U with
   | error c =>
    obtain ⟨rfl, hb3⟩ := hA
    exact ⟨rfl, rfl, HB1.out.trans (hb3.mono HB1.out.size)⟩
   | ok y =>
    obtain ⟨rfl, hb3⟩ := hA
    have hr := (hb3.block (w.heap.size + 2) (by omega)).trans HR1.out
    have HB3 := hid (HB1.out.trans (hb3.mono HB1.out.size))
    clear hb3 HB1 HR1 hU2
    obtain ⟨r0, r1, r2, r3, r4, r5⟩ := six_box hr
    obtain ⟨rf0, rf1, rf2, rf3, rf4, rf5⟩ := Base.frz6 hr
    go_wp2_with fail
    obtain ⟨W9, hW9⟩ := stc6 W3 (w.heap.size + 2) (.int .i64 3) (.bool false) (.int .i64 y) (.string ⟨#[]⟩) (.slice none 0 0) (.slice none 0 0)
    rw [hW9]
    obtain ⟨q1, q2, q3, q4⟩ := set6 _ _ _ _ _ _ hr hW9
    refine out_ret (results_cell_row rfl _ W9 (w.heap.size + 2) 26 _ (0, 0) _ rfl q1 underlying26 rfl (by kernel_rfl)) rfl ?_
    exact ⟨rfl, q4 _ _ (by omega) HB3.out⟩
  ·rw [if_neg h2] at hA hU
   obtain ⟨rfl, hb1⟩ := hA
   subst hU
   exact ⟨rfl, rfl, HB.out.trans (hb1.mono HB.out.size)⟩
 ·rw [if_neg h1] at hA hU
  obtain ⟨rfl, hb1⟩ := hA
  subst hU
  exact ⟨rfl, rfl, HB.out.trans (hb1.mono HB.out.size)⟩
theorem pair_Mod (k1 : Int) (b1 : Bool) (i1 : Int) (s1 : ByteArray) (n1 l1 : Value) (k2 : Int) (b2 : Bool) (i2 : Int) (s2 : ByteArray) (n2 l2 : Value) (w : World) (x e0 : Int) (cW : k1 = 3 -> k2 = 3 -> ∀ W : World, Calls prog 127 #[.int .i64 i1, .int .i64 i2] W fun e w' => e = .returned (.tuple #[.int .i64 x, .int .i64 e0]) /\ w' = W) :
  Calls prog 94 #[.int .i64 14, vl k1 b1 i1 s1 n1 l1, vl k2 b2 i2 s2 n2 l2] w fun e w' => An w w' e (fun c : Int => v0 3 false c ⟨#[]⟩) (twI k1 k2 x e0) := by
 obtain ⟨W0, hW0, hs0, hb0, hp, hq, hr⟩ := two3 w #[.int .i64 k1, .bool b1, .int .i64 i1, .string s1, n1, l1] #[.int .i64 k2, .bool b2, .int .i64 i2, .string s2, n2, l2]
 have HR := hid hr
 have HB := hid hb0
 obtain ⟨p0, p1, p2, p3, p4, p5⟩ := six_box hp
 obtain ⟨q0, q1, q2, q3, q4, q5⟩ := six_box hq
 have cI := integers_c k1 b1 i1 s1 n1 l1 k2 b2 i2 s2 n2 l2 W0
 have cK := checked_c x e0
 obtain ⟨U, hU⟩ : ∃ U, twI k1 k2 x e0 = U := ⟨_, rfl⟩
 rw [hU]
 unfold twI at hU
 clear hp hq hb0 hr
 go_enter func94, ntmps94
 go_upto_if 25 with fail
 refine wp_cond_true (by rfl) ?_
 refine wp_exit ?_
 repeat (first | (with_reducible refine ex_then ?_) | (with_reducible refine ex_skip (by decide) ?_))
 refine ex_hit ?_
 refine ex_norm ?_
 apply_assumption
 refine wp_mono (Q := Out ?outB) ?outM (out_mono ?outR ?outP)
 case outR => intro a w h; (repeat (first | (with_reducible refine rt_then ?_) | (with_reducible refine rt_blk ?_))); exact h
 case outP => intro c a w h; (repeat (first | (with_reducible refine pn_then ?_) | (with_reducible refine pn_blk ?_))); exact h
 try simp only [hW0]
 go_wp2_with fail
 try rw [hW0]
 refine cI.mono ?_
 intro e W1 hA
 clear cI
 by_cases h1 : k1 = 3
 ·rw [if_pos h1] at hA hU
  by_cases h2 : k2 = 3
  ·rw [if_pos h2] at hA hU
   obtain ⟨rfl, hb1⟩ := hA
   have cw := cW h1 h2 W1
   have HR1 := hid ((hb1.block (w.heap.size + 2) (by omega)).trans HR.out)
   have hs1 := hb1.size
   have HB1 := hid (HB.out.trans (hb1.mono HB.out.size))
   clear hb1 HR HB h1 h2 cW p0 p1 p2 p3 p4 p5 q0 q1 q2 q3 q4 q5
   go_wp2_with fail
   refine cw.mono ?_
   rintro e W2 ⟨rfl, rfl⟩
   clear cw
   have cK := cK W2
   unfold chkI at hU
   rw [hU] at cK
   have hU2 := hU
   clear hU
   go_wp2_with fail
   refine cK.mono ?_
   intro e W3 hA
   clear cK
   cases U with
   | error c =>
    obtain ⟨rfl, hb3⟩ := hA
    exact ⟨rfl, rfl, HB1.out.trans (hb3.mono HB1.out.size)⟩
   | ok y =>
    obtain ⟨rfl, hb3⟩ := hA
    have hr := (hb3.block (w.heap.size + 2) (by omega)).trans HR1.out
    have HB3 := hid (HB1.out.trans (hb3.mono HB1.out.size))
    clear hb3 HB1 HR1 hU2
    obtain ⟨r0, r1, r2, r3, r4, r5⟩ := six_box hr
    obtain ⟨rf0, rf1, rf2, rf3, rf4, rf5⟩ := Base.frz6 hr
    go_wp2_with fail
    obtain ⟨W9, hW9⟩ := stc6 W3 (w.heap.size + 2) (.int .i64 3) (.bool false) (.int .i64 y) (.string ⟨#[]⟩) (.slice none 0 0) (.slice none 0 0)
    rw [hW9]
    obtain ⟨q1, q2, q3, q4⟩ := set6 _ _ _ _ _ _ hr hW9
    refine out_ret (results_cell_row rfl _ W9 (w.heap.size + 2) 26 _ (0, 0) _ rfl q1 underlying26 rfl (by kernel_rfl)) rfl ?_
    exact ⟨rfl, q4 _ _ (by omega) HB3.out⟩
  ·rw [if_neg h2] at hA hU
   obtain ⟨rfl, hb1⟩ := hA
   subst hU
   exact ⟨rfl, rfl, HB.out.trans (hb1.mono HB.out.size)⟩
 ·rw [if_neg h1] at hA hU
  obtain ⟨rfl, hb1⟩ := hA
  subst hU
  exact ⟨rfl, rfl, HB.out.trans (hb1.mono HB.out.size)⟩
theorem pair_Shl (k1 : Int) (b1 : Bool) (i1 : Int) (s1 : ByteArray) (n1 l1 : Value) (k2 : Int) (b2 : Bool) (i2 : Int) (s2 : ByteArray) (n2 l2 : Value) (w : World) (x e0 : Int) (cW : k1 = 3 -> k2 = 3 -> ∀ W : World, Calls prog 128 #[.int .i64 i1, .int .i64 i2] W fun e w' => e = .returned (.tuple #[.int .i64 x, .int .i64 e0]) /\ w' = W) :
  Calls prog 94 #[.int .i64 18, vl k1 b1 i1 s1 n1 l1, vl k2 b2 i2 s2 n2 l2] w fun e w' => An w w' e (fun c : Int => v0 3 false c ⟨#[]⟩) (twI k1 k2 x e0) := by
 obtain ⟨W0, hW0, hs0, hb0, hp, hq, hr⟩ := two3 w #[.int .i64 k1, .bool b1, .int .i64 i1, .string s1, n1, l1] #[.int .i64 k2, .bool b2, .int .i64 i2, .string s2, n2, l2]
 have HR := hid hr
 have HB := hid hb0
 obtain ⟨p0, p1, p2, p3, p4, p5⟩ := six_box hp
 obtain ⟨q0, q1, q2, q3, q4, q5⟩ := six_box hq
 have cI := integers_c k1 b1 i1 s1 n1 l1 k2 b2 i2 s2 n2 l2 W0
 have cK := checked_c x e0
 obtain ⟨U, hU⟩ : ∃ U, twI k1 k2 x e0 = U := ⟨_, rfl⟩
 rw [hU]
 unfold twI at hU
 clear hp hq hb0 hr
 go_enter func94, ntmps94
 go_upto_if 27 with fail
 refine wp_cond_true (by rfl) ?_
 refine wp_exit ?_
 repeat (first | (with_reducible refine ex_then ?_) | (with_reducible refine ex_skip (by decide) ?_))
 refine ex_hit ?_
 refine ex_norm ?_
 apply_assumption
 refine wp_mono (Q := Out ?outB) ?outM (out_mono ?outR ?outP)
 case outR => intro a w h; (repeat (first | (with_reducible refine rt_then ?_) | (with_reducible refine rt_blk ?_))); exact h
 case outP => intro c a w h; (repeat (first | (with_reducible refine pn_then ?_) | (with_reducible refine pn_blk ?_))); exact h
 try simp only [hW0]
 go_wp2_with fail
 try rw [hW0]
 refine cI.mono ?_
 intro e W1 hA
 clear cI
 by_cases h1 : k1 = 3
 ·rw [if_pos h1] at hA hU
  by_cases h2 : k2 = 3
  ·rw [if_pos h2] at hA hU
   obtain ⟨rfl, hb1⟩ := hA
   have cw := cW h1 h2 W1
   have HR1 := hid ((hb1.block (w.heap.size + 2) (by omega)).trans HR.out)
   have hs1 := hb1.size
   have HB1 := hid (HB.out.trans (hb1.mono HB.out.size))
   clear hb1 HR HB h1 h2 cW p0 p1 p2 p3 p4 p5 q0 q1 q2 q3 q4 q5
   go_wp2_with fail
   refine cw.mono ?_
   rintro e W2 ⟨rfl, rfl⟩
   clear cw
   have cK := cK W2
   unfold chkI at hU
   rw [hU] at cK
   have hU2 := hU
   clear hU
   go_wp2_with fail
   refine cK.mono ?_
   intro e W3 hA
   clear cK
   cases U with
   | error c =>
    obtain ⟨rfl, hb3⟩ := hA
    exact ⟨rfl, rfl, HB1.out.trans (hb3.mono HB1.out.size)⟩
   | ok y =>
    obtain ⟨rfl, hb3⟩ := hA
    have hr := (hb3.block (w.heap.size + 2) (by omega)).trans HR1.out
    have HB3 := hid (HB1.out.trans (hb3.mono HB1.out.size))
    clear hb3 HB1 HR1 hU2
    obtain ⟨r0, r1, r2, r3, r4, r5⟩ := six_box hr
    obtain ⟨rf0, rf1, rf2, rf3, rf4, rf5⟩ := Base.frz6 hr
    go_wp2_with fail
    obtain ⟨W9, hW9⟩ := stc6 W3 (w.heap.size + 2) (.int .i64 3) (.bool false) (.int .i64 y) (.string ⟨#[]⟩) (.slice none 0 0) (.slice none 0 0)
    rw [hW9]
    obtain ⟨q1, q2, q3, q4⟩ := set6 _ _ _ _ _ _ hr hW9
    refine out_ret (results_cell_row rfl _ W9 (w.heap.size + 2) 26 _ (0, 0) _ rfl q1 underlying26 rfl (by kernel_rfl)) rfl ?_
    exact ⟨rfl, q4 _ _ (by omega) HB3.out⟩
  ·rw [if_neg h2] at hA hU
   obtain ⟨rfl, hb1⟩ := hA
   subst hU
   exact ⟨rfl, rfl, HB.out.trans (hb1.mono HB.out.size)⟩
 ·rw [if_neg h1] at hA hU
  obtain ⟨rfl, hb1⟩ := hA
  subst hU
  exact ⟨rfl, rfl, HB.out.trans (hb1.mono HB.out.size)⟩
theorem pair_Shr (k1 : Int) (b1 : Bool) (i1 : Int) (s1 : ByteArray) (n1 l1 : Value) (k2 : Int) (b2 : Bool) (i2 : Int) (s2 : ByteArray) (n2 l2 : Value) (w : World) (x e0 : Int) (cW : k1 = 3 -> k2 = 3 -> ∀ W : World, Calls prog 129 #[.int .i64 i1, .int .i64 i2] W fun e w' => e = .returned (.tuple #[.int .i64 x, .int .i64 e0]) /\ w' = W) :
  Calls prog 94 #[.int .i64 19, vl k1 b1 i1 s1 n1 l1, vl k2 b2 i2 s2 n2 l2] w fun e w' => An w w' e (fun c : Int => v0 3 false c ⟨#[]⟩) (twI k1 k2 x e0) := by
 obtain ⟨W0, hW0, hs0, hb0, hp, hq, hr⟩ := two3 w #[.int .i64 k1, .bool b1, .int .i64 i1, .string s1, n1, l1] #[.int .i64 k2, .bool b2, .int .i64 i2, .string s2, n2, l2]
 have HR := hid hr
 have HB := hid hb0
 obtain ⟨p0, p1, p2, p3, p4, p5⟩ := six_box hp
 obtain ⟨q0, q1, q2, q3, q4, q5⟩ := six_box hq
 have cI := integers_c k1 b1 i1 s1 n1 l1 k2 b2 i2 s2 n2 l2 W0
 have cK := checked_c x e0
 obtain ⟨U, hU⟩ : ∃ U, twI k1 k2 x e0 = U := ⟨_, rfl⟩
 rw [hU]
 unfold twI at hU
 clear hp hq hb0 hr
 go_enter func94, ntmps94
 go_upto_if 29 with fail
 refine wp_cond_true (by rfl) ?_
 refine wp_exit ?_
 repeat (first | (with_reducible refine ex_then ?_) | (with_reducible refine ex_skip (by decide) ?_))
 refine ex_hit ?_
 refine ex_norm ?_
 apply_assumption
 refine wp_mono (Q := Out ?outB) ?outM (out_mono ?outR ?outP)
 case outR => intro a w h; (repeat (first | (with_reducible refine rt_then ?_) | (with_reducible refine rt_blk ?_))); exact h
 case outP => intro c a w h; (repeat (first | (with_reducible refine pn_then ?_) | (with_reducible refine pn_blk ?_))); exact h
 try simp only [hW0]
 go_wp2_with fail
 try rw [hW0]
 refine cI.mono ?_
 intro e W1 hA
 clear cI
 by_cases h1 : k1 = 3
 ·rw [if_pos h1] at hA hU
  by_cases h2 : k2 = 3
  ·rw [if_pos h2] at hA hU
   obtain ⟨rfl, hb1⟩ := hA
   have cw := cW h1 h2 W1
   have HR1 := hid ((hb1.block (w.heap.size + 2) (by omega)).trans HR.out)
   have hs1 := hb1.size
   have HB1 := hid (HB.out.trans (hb1.mono HB.out.size))
   clear hb1 HR HB h1 h2 cW p0 p1 p2 p3 p4 p5 q0 q1 q2 q3 q4 q5
   go_wp2_with fail
   refine cw.mono ?_
   rintro e W2 ⟨rfl, rfl⟩
   clear cw
   have cK := cK W2
   unfold chkI at hU
   rw [hU] at cK
   have hU2 := hU
   clear hU
   go_wp2_with fail
   refine cK.mono ?_
   intro e W3 hA
   clear cK
   cases U with
   | error c =>
    obtain ⟨rfl, hb3⟩ := hA
    exact ⟨rfl, rfl, HB1.out.trans (hb3.mono HB1.out.size)⟩
   | ok y =>
    obtain ⟨rfl, hb3⟩ := hA
    have hr := (hb3.block (w.heap.size + 2) (by omega)).trans HR1.out
    have HB3 := hid (HB1.out.trans (hb3.mono HB1.out.size))
    clear hb3 HB1 HR1 hU2
    obtain ⟨r0, r1, r2, r3, r4, r5⟩ := six_box hr
    obtain ⟨rf0, rf1, rf2, rf3, rf4, rf5⟩ := Base.frz6 hr
    go_wp2_with fail
    obtain ⟨W9, hW9⟩ := stc6 W3 (w.heap.size + 2) (.int .i64 3) (.bool false) (.int .i64 y) (.string ⟨#[]⟩) (.slice none 0 0) (.slice none 0 0)
    rw [hW9]
    obtain ⟨q1, q2, q3, q4⟩ := set6 _ _ _ _ _ _ hr hW9
    refine out_ret (results_cell_row rfl _ W9 (w.heap.size + 2) 26 _ (0, 0) _ rfl q1 underlying26 rfl (by kernel_rfl)) rfl ?_
    exact ⟨rfl, q4 _ _ (by omega) HB3.out⟩
  ·rw [if_neg h2] at hA hU
   obtain ⟨rfl, hb1⟩ := hA
   subst hU
   exact ⟨rfl, rfl, HB.out.trans (hb1.mono HB.out.size)⟩
 ·rw [if_neg h1] at hA hU
  obtain ⟨rfl, hb1⟩ := hA
  subst hU
  exact ⟨rfl, rfl, HB.out.trans (hb1.mono HB.out.size)⟩
end Go.Proofs.YtiijfmdfccdagaaGreatDoor.VPn

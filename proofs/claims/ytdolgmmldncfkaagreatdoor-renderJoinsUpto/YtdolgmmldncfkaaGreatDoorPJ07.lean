import Derived.Lib.ItoaLen
import Derived.Test.YtdolgmmldncfkaaGreatDoorPJ03
import Derived.Test.YtdolgmmldncfkaaGreatDoorPJ04
import Derived.Test.YtdolgmmldncfkaaGreatDoorPJ06
open Go.Proofs.Tryz
set_option linter.unusedVariables false
set_option maxRecDepth 20000
set_option maxHeartbeats 3200000
namespace Go.Proofs.YtdolgmmldncfkaaGreatDoor.VPn
open Go.RowKit Base VPure VSm VIn VEx
theorem pair_Add (k1:Int) (b1:Bool) (i1:Int) (s1:ByteArray) (n1 l1:Value) (k2:Int) (b2:Bool) (i2:Int) (s2:ByteArray) (n2 l2:Value) (w:World) (x e0:Int) (cW:k1=3->k2=3->∀ W:World,Calls prog 91 #[.int .i64 i1,.int .i64 i2] W fun e w'=>e=.returned (.tuple #[.int .i64 x,.int .i64 e0])/\w'=W) :
  Calls prog 68 #[.int .i64 15,vl k1 b1 i1 s1 n1 l1,vl k2 b2 i2 s2 n2 l2] w fun e w'=>An w w' e (fun c:Int=>v0 3 false c ⟨#[]⟩) (twI k1 k2 x e0):=by
 obtain⟨W0,hW0,hs0,hb0,hp,hq,hr⟩:=two3 w #[.int .i64 k1,.bool b1,.int .i64 i1,.string s1,n1,l1] #[.int .i64 k2,.bool b2,.int .i64 i2,.string s2,n2,l2];have HR:=hid hr;have HB:=hid hb0;obtain⟨p0,p1,p2,p3,p4,p5⟩:=six_box hp;obtain⟨q0,q1,q2,q3,q4,q5⟩:=six_box hq;have cI:=integers_c k1 b1 i1 s1 n1 l1 k2 b2 i2 s2 n2 l2 W0;have cK:=checked_c x e0;obtain⟨U,hU⟩ : ∃ U,twI k1 k2 x e0=U:=⟨_,rfl⟩;rw[hU];unfold twI at hU;clear hp hq hb0 hr;go_enter func68,ntmps68;go_upto_if 19 with fail
 refine wp_cond_true (by rfl) ?_;refine wp_exit ?_;repeat (first | (with_reducible refine ex_then ?_) | (with_reducible refine ex_skip (by decide) ?_))
 refine ex_hit ?_;refine ex_norm ?_;apply_assumption
 refine wp_mono (Q:=Out ?outB) ?outM (out_mono ?outR ?outP)
 case outR=>intro a w h;(repeat (first | (with_reducible refine rt_then ?_) | (with_reducible refine rt_blk ?_)));exact h
 case outP=>intro c a w h;(repeat (first | (with_reducible refine pn_then ?_) | (with_reducible refine pn_blk ?_)));exact h
 try simp only [hW0]
 go_wp2_with fail
 try rw[hW0]
 refine cI.mono ?_;intro e W1 hA;clear cI;by_cases h1:k1=3
 ·rw[if_pos h1] at hA hU
  by_cases h2:k2=3
  ·rw[if_pos h2] at hA hU
   obtain⟨rfl,hb1⟩:=hA;have cw:=cW h1 h2 W1;have HR1:=hid ((hb1.block (w.heap.size+2) (by omega)).trans HR.out);have hs1:=hb1.size;have HB1:=hid (HB.out.trans (hb1.mono HB.out.size));clear hb1 HR HB h1 h2 cW p0 p1 p2 p3 p4 p5 q0 q1 q2 q3 q4 q5;go_wp2_with fail
   refine cw.mono ?_;rintro e W2 ⟨rfl,rfl⟩;clear cw;have cK:=cK W2;unfold chkI at hU;rw[hU] at cK;have hU2:=hU;clear hU;go_wp2_with fail
   refine cK.mono ?_;intro e W3 hA;clear cK;cases U with
   | error c=>
    obtain⟨rfl,hb3⟩:=hA;exact⟨rfl,rfl,HB1.out.trans (hb3.mono HB1.out.size)⟩
   | ok y=>
    obtain⟨rfl,hb3⟩:=hA;have hr:=(hb3.block (w.heap.size+2) (by omega)).trans HR1.out;have HB3:=hid (HB1.out.trans (hb3.mono HB1.out.size));clear hb3 HB1 HR1 hU2;obtain⟨r0,r1,r2,r3,r4,r5⟩:=six_box hr;obtain⟨rf0,rf1,rf2,rf3,rf4,rf5⟩:=Base.frz6 hr;go_wp2_with fail
    obtain⟨W9,hW9⟩:=stc6 W3 (w.heap.size+2) (.int .i64 3) (.bool false) (.int .i64 y) (.string ⟨#[]⟩) (.slice none 0 0) (.slice none 0 0);rw[hW9];obtain⟨q1,q2,q3,q4⟩:=set6 _ _ _ _ _ _ hr hW9;refine out_ret (results_cell_row rfl _ W9 (w.heap.size+2) 26 _ (0,0) _ rfl q1 underlying26 rfl (by kernel_rfl)) rfl ?_;exact⟨rfl,q4 _ _ (by omega) HB3.out⟩
  ·rw[if_neg h2] at hA hU
   obtain⟨rfl,hb1⟩:=hA;subst hU;exact⟨rfl,rfl,HB.out.trans (hb1.mono HB.out.size)⟩
 ·rw[if_neg h1] at hA hU
  obtain⟨rfl,hb1⟩:=hA;subst hU;exact⟨rfl,rfl,HB.out.trans (hb1.mono HB.out.size)⟩
theorem pair_Sub (k1:Int) (b1:Bool) (i1:Int) (s1:ByteArray) (n1 l1:Value) (k2:Int) (b2:Bool) (i2:Int) (s2:ByteArray) (n2 l2:Value) (w:World) (x e0:Int) (cW:k1=3->k2=3->∀ W:World,Calls prog 89 #[.int .i64 i1,.int .i64 i2] W fun e w'=>e=.returned (.tuple #[.int .i64 x,.int .i64 e0])/\w'=W) :
  Calls prog 68 #[.int .i64 16,vl k1 b1 i1 s1 n1 l1,vl k2 b2 i2 s2 n2 l2] w fun e w'=>An w w' e (fun c:Int=>v0 3 false c ⟨#[]⟩) (twI k1 k2 x e0):=by
 obtain⟨W0,hW0,hs0,hb0,hp,hq,hr⟩:=two3 w #[.int .i64 k1,.bool b1,.int .i64 i1,.string s1,n1,l1] #[.int .i64 k2,.bool b2,.int .i64 i2,.string s2,n2,l2];have HR:=hid hr;have HB:=hid hb0;obtain⟨p0,p1,p2,p3,p4,p5⟩:=six_box hp;obtain⟨q0,q1,q2,q3,q4,q5⟩:=six_box hq;have cI:=integers_c k1 b1 i1 s1 n1 l1 k2 b2 i2 s2 n2 l2 W0;have cK:=checked_c x e0;obtain⟨U,hU⟩ : ∃ U,twI k1 k2 x e0=U:=⟨_,rfl⟩;rw[hU];unfold twI at hU;clear hp hq hb0 hr;go_enter func68,ntmps68;go_upto_if 17 with fail
 refine wp_cond_true (by rfl) ?_;refine wp_exit ?_;repeat (first | (with_reducible refine ex_then ?_) | (with_reducible refine ex_skip (by decide) ?_))
 refine ex_hit ?_;refine ex_norm ?_;apply_assumption
 refine wp_mono (Q:=Out ?outB) ?outM (out_mono ?outR ?outP)
 case outR=>intro a w h;(repeat (first | (with_reducible refine rt_then ?_) | (with_reducible refine rt_blk ?_)));exact h
 case outP=>intro c a w h;(repeat (first | (with_reducible refine pn_then ?_) | (with_reducible refine pn_blk ?_)));exact h
 try simp only [hW0]
 go_wp2_with fail
 try rw[hW0]
 refine cI.mono ?_;intro e W1 hA;clear cI;by_cases h1:k1=3
 ·rw[if_pos h1] at hA hU
  by_cases h2:k2=3
  ·rw[if_pos h2] at hA hU
   obtain⟨rfl,hb1⟩:=hA;have cw:=cW h1 h2 W1;have HR1:=hid ((hb1.block (w.heap.size+2) (by omega)).trans HR.out);have hs1:=hb1.size;have HB1:=hid (HB.out.trans (hb1.mono HB.out.size));clear hb1 HR HB h1 h2 cW p0 p1 p2 p3 p4 p5 q0 q1 q2 q3 q4 q5;go_wp2_with fail
   refine cw.mono ?_;rintro e W2 ⟨rfl,rfl⟩;clear cw;have cK:=cK W2;unfold chkI at hU;rw[hU] at cK;have hU2:=hU;clear hU;go_wp2_with fail
   refine cK.mono ?_;intro e W3 hA;clear cK;cases U with
   | error c=>
    obtain⟨rfl,hb3⟩:=hA;exact⟨rfl,rfl,HB1.out.trans (hb3.mono HB1.out.size)⟩
   | ok y=>
    obtain⟨rfl,hb3⟩:=hA;have hr:=(hb3.block (w.heap.size+2) (by omega)).trans HR1.out;have HB3:=hid (HB1.out.trans (hb3.mono HB1.out.size));clear hb3 HB1 HR1 hU2;obtain⟨r0,r1,r2,r3,r4,r5⟩:=six_box hr;obtain⟨rf0,rf1,rf2,rf3,rf4,rf5⟩:=Base.frz6 hr;go_wp2_with fail
    obtain⟨W9,hW9⟩:=stc6 W3 (w.heap.size+2) (.int .i64 3) (.bool false) (.int .i64 y) (.string ⟨#[]⟩) (.slice none 0 0) (.slice none 0 0);rw[hW9];obtain⟨q1,q2,q3,q4⟩:=set6 _ _ _ _ _ _ hr hW9;refine out_ret (results_cell_row rfl _ W9 (w.heap.size+2) 26 _ (0,0) _ rfl q1 underlying26 rfl (by kernel_rfl)) rfl ?_;exact⟨rfl,q4 _ _ (by omega) HB3.out⟩
  ·rw[if_neg h2] at hA hU
   obtain⟨rfl,hb1⟩:=hA;subst hU;exact⟨rfl,rfl,HB.out.trans (hb1.mono HB.out.size)⟩
 ·rw[if_neg h1] at hA hU
  obtain⟨rfl,hb1⟩:=hA;subst hU;exact⟨rfl,rfl,HB.out.trans (hb1.mono HB.out.size)⟩
theorem pair_Mul (k1:Int) (b1:Bool) (i1:Int) (s1:ByteArray) (n1 l1:Value) (k2:Int) (b2:Bool) (i2:Int) (s2:ByteArray) (n2 l2:Value) (w:World) (x e0:Int) (cW:k1=3->k2=3->∀ W:World,Calls prog 92 #[.int .i64 i1,.int .i64 i2] W fun e w'=>e=.returned (.tuple #[.int .i64 x,.int .i64 e0])/\w'=W) :
  Calls prog 68 #[.int .i64 12,vl k1 b1 i1 s1 n1 l1,vl k2 b2 i2 s2 n2 l2] w fun e w'=>An w w' e (fun c:Int=>v0 3 false c ⟨#[]⟩) (twI k1 k2 x e0):=by
 obtain⟨W0,hW0,hs0,hb0,hp,hq,hr⟩:=two3 w #[.int .i64 k1,.bool b1,.int .i64 i1,.string s1,n1,l1] #[.int .i64 k2,.bool b2,.int .i64 i2,.string s2,n2,l2];have HR:=hid hr;have HB:=hid hb0;obtain⟨p0,p1,p2,p3,p4,p5⟩:=six_box hp;obtain⟨q0,q1,q2,q3,q4,q5⟩:=six_box hq;have cI:=integers_c k1 b1 i1 s1 n1 l1 k2 b2 i2 s2 n2 l2 W0;have cK:=checked_c x e0;obtain⟨U,hU⟩ : ∃ U,twI k1 k2 x e0=U:=⟨_,rfl⟩;rw[hU];unfold twI at hU;clear hp hq hb0 hr;go_enter func68,ntmps68;go_upto_if 21 with fail
 refine wp_cond_true (by rfl) ?_;refine wp_exit ?_;repeat (first | (with_reducible refine ex_then ?_) | (with_reducible refine ex_skip (by decide) ?_))
 refine ex_hit ?_;refine ex_norm ?_;apply_assumption
 refine wp_mono (Q:=Out ?outB) ?outM (out_mono ?outR ?outP)
 case outR=>intro a w h;(repeat (first | (with_reducible refine rt_then ?_) | (with_reducible refine rt_blk ?_)));exact h
 case outP=>intro c a w h;(repeat (first | (with_reducible refine pn_then ?_) | (with_reducible refine pn_blk ?_)));exact h
 try simp only [hW0]
 go_wp2_with fail
 try rw[hW0]
 refine cI.mono ?_;intro e W1 hA;clear cI;by_cases h1:k1=3
 ·rw[if_pos h1] at hA hU
  by_cases h2:k2=3
  ·rw[if_pos h2] at hA hU
   obtain⟨rfl,hb1⟩:=hA;have cw:=cW h1 h2 W1;have HR1:=hid ((hb1.block (w.heap.size+2) (by omega)).trans HR.out);have hs1:=hb1.size;have HB1:=hid (HB.out.trans (hb1.mono HB.out.size));clear hb1 HR HB h1 h2 cW p0 p1 p2 p3 p4 p5 q0 q1 q2 q3 q4 q5;go_wp2_with fail
   refine cw.mono ?_;rintro e W2 ⟨rfl,rfl⟩;clear cw;have cK:=cK W2;unfold chkI at hU;rw[hU] at cK;have hU2:=hU;clear hU;go_wp2_with fail
   refine cK.mono ?_;intro e W3 hA;clear cK;cases U with
   | error c=>
    obtain⟨rfl,hb3⟩:=hA;exact⟨rfl,rfl,HB1.out.trans (hb3.mono HB1.out.size)⟩
   | ok y=>
    obtain⟨rfl,hb3⟩:=hA;have hr:=(hb3.block (w.heap.size+2) (by omega)).trans HR1.out;have HB3:=hid (HB1.out.trans (hb3.mono HB1.out.size));clear hb3 HB1 HR1 hU2;obtain⟨r0,r1,r2,r3,r4,r5⟩:=six_box hr;obtain⟨rf0,rf1,rf2,rf3,rf4,rf5⟩:=Base.frz6 hr;go_wp2_with fail
    obtain⟨W9,hW9⟩:=stc6 W3 (w.heap.size+2) (.int .i64 3) (.bool false) (.int .i64 y) (.string ⟨#[]⟩) (.slice none 0 0) (.slice none 0 0);rw[hW9];obtain⟨q1,q2,q3,q4⟩:=set6 _ _ _ _ _ _ hr hW9;refine out_ret (results_cell_row rfl _ W9 (w.heap.size+2) 26 _ (0,0) _ rfl q1 underlying26 rfl (by kernel_rfl)) rfl ?_;exact⟨rfl,q4 _ _ (by omega) HB3.out⟩
  ·rw[if_neg h2] at hA hU
   obtain⟨rfl,hb1⟩:=hA;subst hU;exact⟨rfl,rfl,HB.out.trans (hb1.mono HB.out.size)⟩
 ·rw[if_neg h1] at hA hU
  obtain⟨rfl,hb1⟩:=hA;subst hU;exact⟨rfl,rfl,HB.out.trans (hb1.mono HB.out.size)⟩
theorem pair_Div (k1:Int) (b1:Bool) (i1:Int) (s1:ByteArray) (n1 l1:Value) (k2:Int) (b2:Bool) (i2:Int) (s2:ByteArray) (n2 l2:Value) (w:World) (x e0:Int) (cW:k1=3->k2=3->∀ W:World,Calls prog 93 #[.int .i64 i1,.int .i64 i2] W fun e w'=>e=.returned (.tuple #[.int .i64 x,.int .i64 e0])/\w'=W) :
  Calls prog 68 #[.int .i64 13,vl k1 b1 i1 s1 n1 l1,vl k2 b2 i2 s2 n2 l2] w fun e w'=>An w w' e (fun c:Int=>v0 3 false c ⟨#[]⟩) (twI k1 k2 x e0):=by
 obtain⟨W0,hW0,hs0,hb0,hp,hq,hr⟩:=two3 w #[.int .i64 k1,.bool b1,.int .i64 i1,.string s1,n1,l1] #[.int .i64 k2,.bool b2,.int .i64 i2,.string s2,n2,l2];have HR:=hid hr;have HB:=hid hb0;obtain⟨p0,p1,p2,p3,p4,p5⟩:=six_box hp;obtain⟨q0,q1,q2,q3,q4,q5⟩:=six_box hq;have cI:=integers_c k1 b1 i1 s1 n1 l1 k2 b2 i2 s2 n2 l2 W0;have cK:=checked_c x e0;obtain⟨U,hU⟩ : ∃ U,twI k1 k2 x e0=U:=⟨_,rfl⟩;rw[hU];unfold twI at hU;clear hp hq hb0 hr;go_enter func68,ntmps68;go_upto_if 23 with fail
 refine wp_cond_true (by rfl) ?_;refine wp_exit ?_;repeat (first | (with_reducible refine ex_then ?_) | (with_reducible refine ex_skip (by decide) ?_))
 refine ex_hit ?_;refine ex_norm ?_;apply_assumption
 refine wp_mono (Q:=Out ?outB) ?outM (out_mono ?outR ?outP)
 case outR=>intro a w h;(repeat (first | (with_reducible refine rt_then ?_) | (with_reducible refine rt_blk ?_)));exact h
 case outP=>intro c a w h;(repeat (first | (with_reducible refine pn_then ?_) | (with_reducible refine pn_blk ?_)));exact h
 try simp only [hW0]
 go_wp2_with fail
 try rw[hW0]
 refine cI.mono ?_;intro e W1 hA;clear cI;by_cases h1:k1=3
 ·rw[if_pos h1] at hA hU
  by_cases h2:k2=3
  ·rw[if_pos h2] at hA hU
   obtain⟨rfl,hb1⟩:=hA;have cw:=cW h1 h2 W1;have HR1:=hid ((hb1.block (w.heap.size+2) (by omega)).trans HR.out);have hs1:=hb1.size;have HB1:=hid (HB.out.trans (hb1.mono HB.out.size));clear hb1 HR HB h1 h2 cW p0 p1 p2 p3 p4 p5 q0 q1 q2 q3 q4 q5;go_wp2_with fail
   refine cw.mono ?_;rintro e W2 ⟨rfl,rfl⟩;clear cw;have cK:=cK W2;unfold chkI at hU;rw[hU] at cK;have hU2:=hU;clear hU;go_wp2_with fail
   refine cK.mono ?_;intro e W3 hA;clear cK;cases U with
   | error c=>
    obtain⟨rfl,hb3⟩:=hA;exact⟨rfl,rfl,HB1.out.trans (hb3.mono HB1.out.size)⟩
   | ok y=>
    obtain⟨rfl,hb3⟩:=hA;have hr:=(hb3.block (w.heap.size+2) (by omega)).trans HR1.out;have HB3:=hid (HB1.out.trans (hb3.mono HB1.out.size));clear hb3 HB1 HR1 hU2;obtain⟨r0,r1,r2,r3,r4,r5⟩:=six_box hr;obtain⟨rf0,rf1,rf2,rf3,rf4,rf5⟩:=Base.frz6 hr;go_wp2_with fail
    obtain⟨W9,hW9⟩:=stc6 W3 (w.heap.size+2) (.int .i64 3) (.bool false) (.int .i64 y) (.string ⟨#[]⟩) (.slice none 0 0) (.slice none 0 0);rw[hW9];obtain⟨q1,q2,q3,q4⟩:=set6 _ _ _ _ _ _ hr hW9;refine out_ret (results_cell_row rfl _ W9 (w.heap.size+2) 26 _ (0,0) _ rfl q1 underlying26 rfl (by kernel_rfl)) rfl ?_;exact⟨rfl,q4 _ _ (by omega) HB3.out⟩
  ·rw[if_neg h2] at hA hU
   obtain⟨rfl,hb1⟩:=hA;subst hU;exact⟨rfl,rfl,HB.out.trans (hb1.mono HB.out.size)⟩
 ·rw[if_neg h1] at hA hU
  obtain⟨rfl,hb1⟩:=hA;subst hU;exact⟨rfl,rfl,HB.out.trans (hb1.mono HB.out.size)⟩
theorem pair_Mod (k1:Int) (b1:Bool) (i1:Int) (s1:ByteArray) (n1 l1:Value) (k2:Int) (b2:Bool) (i2:Int) (s2:ByteArray) (n2 l2:Value) (w:World) (x e0:Int) (cW:k1=3->k2=3->∀ W:World,Calls prog 94 #[.int .i64 i1,.int .i64 i2] W fun e w'=>e=.returned (.tuple #[.int .i64 x,.int .i64 e0])/\w'=W) :
  Calls prog 68 #[.int .i64 14,vl k1 b1 i1 s1 n1 l1,vl k2 b2 i2 s2 n2 l2] w fun e w'=>An w w' e (fun c:Int=>v0 3 false c ⟨#[]⟩) (twI k1 k2 x e0):=by
 obtain⟨W0,hW0,hs0,hb0,hp,hq,hr⟩:=two3 w #[.int .i64 k1,.bool b1,.int .i64 i1,.string s1,n1,l1] #[.int .i64 k2,.bool b2,.int .i64 i2,.string s2,n2,l2];have HR:=hid hr;have HB:=hid hb0;obtain⟨p0,p1,p2,p3,p4,p5⟩:=six_box hp;obtain⟨q0,q1,q2,q3,q4,q5⟩:=six_box hq;have cI:=integers_c k1 b1 i1 s1 n1 l1 k2 b2 i2 s2 n2 l2 W0;have cK:=checked_c x e0;obtain⟨U,hU⟩ : ∃ U,twI k1 k2 x e0=U:=⟨_,rfl⟩;rw[hU];unfold twI at hU;clear hp hq hb0 hr;go_enter func68,ntmps68;go_upto_if 25 with fail
 refine wp_cond_true (by rfl) ?_;refine wp_exit ?_;repeat (first | (with_reducible refine ex_then ?_) | (with_reducible refine ex_skip (by decide) ?_))
 refine ex_hit ?_;refine ex_norm ?_;apply_assumption
 refine wp_mono (Q:=Out ?outB) ?outM (out_mono ?outR ?outP)
 case outR=>intro a w h;(repeat (first | (with_reducible refine rt_then ?_) | (with_reducible refine rt_blk ?_)));exact h
 case outP=>intro c a w h;(repeat (first | (with_reducible refine pn_then ?_) | (with_reducible refine pn_blk ?_)));exact h
 try simp only [hW0]
 go_wp2_with fail
 try rw[hW0]
 refine cI.mono ?_;intro e W1 hA;clear cI;by_cases h1:k1=3
 ·rw[if_pos h1] at hA hU
  by_cases h2:k2=3
  ·rw[if_pos h2] at hA hU
   obtain⟨rfl,hb1⟩:=hA;have cw:=cW h1 h2 W1;have HR1:=hid ((hb1.block (w.heap.size+2) (by omega)).trans HR.out);have hs1:=hb1.size;have HB1:=hid (HB.out.trans (hb1.mono HB.out.size));clear hb1 HR HB h1 h2 cW p0 p1 p2 p3 p4 p5 q0 q1 q2 q3 q4 q5;go_wp2_with fail
   refine cw.mono ?_;rintro e W2 ⟨rfl,rfl⟩;clear cw;have cK:=cK W2;unfold chkI at hU;rw[hU] at cK;have hU2:=hU;clear hU;go_wp2_with fail
   refine cK.mono ?_;intro e W3 hA;clear cK;cases U with
   | error c=>
    obtain⟨rfl,hb3⟩:=hA;exact⟨rfl,rfl,HB1.out.trans (hb3.mono HB1.out.size)⟩
   | ok y=>
    obtain⟨rfl,hb3⟩:=hA;have hr:=(hb3.block (w.heap.size+2) (by omega)).trans HR1.out;have HB3:=hid (HB1.out.trans (hb3.mono HB1.out.size));clear hb3 HB1 HR1 hU2;obtain⟨r0,r1,r2,r3,r4,r5⟩:=six_box hr;obtain⟨rf0,rf1,rf2,rf3,rf4,rf5⟩:=Base.frz6 hr;go_wp2_with fail
    obtain⟨W9,hW9⟩:=stc6 W3 (w.heap.size+2) (.int .i64 3) (.bool false) (.int .i64 y) (.string ⟨#[]⟩) (.slice none 0 0) (.slice none 0 0);rw[hW9];obtain⟨q1,q2,q3,q4⟩:=set6 _ _ _ _ _ _ hr hW9;refine out_ret (results_cell_row rfl _ W9 (w.heap.size+2) 26 _ (0,0) _ rfl q1 underlying26 rfl (by kernel_rfl)) rfl ?_;exact⟨rfl,q4 _ _ (by omega) HB3.out⟩
  ·rw[if_neg h2] at hA hU
   obtain⟨rfl,hb1⟩:=hA;subst hU;exact⟨rfl,rfl,HB.out.trans (hb1.mono HB.out.size)⟩
 ·rw[if_neg h1] at hA hU
  obtain⟨rfl,hb1⟩:=hA;subst hU;exact⟨rfl,rfl,HB.out.trans (hb1.mono HB.out.size)⟩
theorem pair_Shl (k1:Int) (b1:Bool) (i1:Int) (s1:ByteArray) (n1 l1:Value) (k2:Int) (b2:Bool) (i2:Int) (s2:ByteArray) (n2 l2:Value) (w:World) (x e0:Int) (cW:k1=3->k2=3->∀ W:World,Calls prog 95 #[.int .i64 i1,.int .i64 i2] W fun e w'=>e=.returned (.tuple #[.int .i64 x,.int .i64 e0])/\w'=W) :
  Calls prog 68 #[.int .i64 18,vl k1 b1 i1 s1 n1 l1,vl k2 b2 i2 s2 n2 l2] w fun e w'=>An w w' e (fun c:Int=>v0 3 false c ⟨#[]⟩) (twI k1 k2 x e0):=by
 obtain⟨W0,hW0,hs0,hb0,hp,hq,hr⟩:=two3 w #[.int .i64 k1,.bool b1,.int .i64 i1,.string s1,n1,l1] #[.int .i64 k2,.bool b2,.int .i64 i2,.string s2,n2,l2];have HR:=hid hr;have HB:=hid hb0;obtain⟨p0,p1,p2,p3,p4,p5⟩:=six_box hp;obtain⟨q0,q1,q2,q3,q4,q5⟩:=six_box hq;have cI:=integers_c k1 b1 i1 s1 n1 l1 k2 b2 i2 s2 n2 l2 W0;have cK:=checked_c x e0;obtain⟨U,hU⟩ : ∃ U,twI k1 k2 x e0=U:=⟨_,rfl⟩;rw[hU];unfold twI at hU;clear hp hq hb0 hr;go_enter func68,ntmps68;go_upto_if 27 with fail
 refine wp_cond_true (by rfl) ?_;refine wp_exit ?_;repeat (first | (with_reducible refine ex_then ?_) | (with_reducible refine ex_skip (by decide) ?_))
 refine ex_hit ?_;refine ex_norm ?_;apply_assumption
 refine wp_mono (Q:=Out ?outB) ?outM (out_mono ?outR ?outP)
 case outR=>intro a w h;(repeat (first | (with_reducible refine rt_then ?_) | (with_reducible refine rt_blk ?_)));exact h
 case outP=>intro c a w h;(repeat (first | (with_reducible refine pn_then ?_) | (with_reducible refine pn_blk ?_)));exact h
 try simp only [hW0]
 go_wp2_with fail
 try rw[hW0]
 refine cI.mono ?_;intro e W1 hA;clear cI;by_cases h1:k1=3
 ·rw[if_pos h1] at hA hU
  by_cases h2:k2=3
  ·rw[if_pos h2] at hA hU
   obtain⟨rfl,hb1⟩:=hA;have cw:=cW h1 h2 W1;have HR1:=hid ((hb1.block (w.heap.size+2) (by omega)).trans HR.out);have hs1:=hb1.size;have HB1:=hid (HB.out.trans (hb1.mono HB.out.size));clear hb1 HR HB h1 h2 cW p0 p1 p2 p3 p4 p5 q0 q1 q2 q3 q4 q5;go_wp2_with fail
   refine cw.mono ?_;rintro e W2 ⟨rfl,rfl⟩;clear cw;have cK:=cK W2;unfold chkI at hU;rw[hU] at cK;have hU2:=hU;clear hU;go_wp2_with fail
   refine cK.mono ?_;intro e W3 hA;clear cK;cases U with
   | error c=>
    obtain⟨rfl,hb3⟩:=hA;exact⟨rfl,rfl,HB1.out.trans (hb3.mono HB1.out.size)⟩
   | ok y=>
    obtain⟨rfl,hb3⟩:=hA;have hr:=(hb3.block (w.heap.size+2) (by omega)).trans HR1.out;have HB3:=hid (HB1.out.trans (hb3.mono HB1.out.size));clear hb3 HB1 HR1 hU2;obtain⟨r0,r1,r2,r3,r4,r5⟩:=six_box hr;obtain⟨rf0,rf1,rf2,rf3,rf4,rf5⟩:=Base.frz6 hr;go_wp2_with fail
    obtain⟨W9,hW9⟩:=stc6 W3 (w.heap.size+2) (.int .i64 3) (.bool false) (.int .i64 y) (.string ⟨#[]⟩) (.slice none 0 0) (.slice none 0 0);rw[hW9];obtain⟨q1,q2,q3,q4⟩:=set6 _ _ _ _ _ _ hr hW9;refine out_ret (results_cell_row rfl _ W9 (w.heap.size+2) 26 _ (0,0) _ rfl q1 underlying26 rfl (by kernel_rfl)) rfl ?_;exact⟨rfl,q4 _ _ (by omega) HB3.out⟩
  ·rw[if_neg h2] at hA hU
   obtain⟨rfl,hb1⟩:=hA;subst hU;exact⟨rfl,rfl,HB.out.trans (hb1.mono HB.out.size)⟩
 ·rw[if_neg h1] at hA hU
  obtain⟨rfl,hb1⟩:=hA;subst hU;exact⟨rfl,rfl,HB.out.trans (hb1.mono HB.out.size)⟩
theorem pair_Shr (k1:Int) (b1:Bool) (i1:Int) (s1:ByteArray) (n1 l1:Value) (k2:Int) (b2:Bool) (i2:Int) (s2:ByteArray) (n2 l2:Value) (w:World) (x e0:Int) (cW:k1=3->k2=3->∀ W:World,Calls prog 96 #[.int .i64 i1,.int .i64 i2] W fun e w'=>e=.returned (.tuple #[.int .i64 x,.int .i64 e0])/\w'=W) :
  Calls prog 68 #[.int .i64 19,vl k1 b1 i1 s1 n1 l1,vl k2 b2 i2 s2 n2 l2] w fun e w'=>An w w' e (fun c:Int=>v0 3 false c ⟨#[]⟩) (twI k1 k2 x e0):=by
 obtain⟨W0,hW0,hs0,hb0,hp,hq,hr⟩:=two3 w #[.int .i64 k1,.bool b1,.int .i64 i1,.string s1,n1,l1] #[.int .i64 k2,.bool b2,.int .i64 i2,.string s2,n2,l2];have HR:=hid hr;have HB:=hid hb0;obtain⟨p0,p1,p2,p3,p4,p5⟩:=six_box hp;obtain⟨q0,q1,q2,q3,q4,q5⟩:=six_box hq;have cI:=integers_c k1 b1 i1 s1 n1 l1 k2 b2 i2 s2 n2 l2 W0;have cK:=checked_c x e0;obtain⟨U,hU⟩ : ∃ U,twI k1 k2 x e0=U:=⟨_,rfl⟩;rw[hU];unfold twI at hU;clear hp hq hb0 hr;go_enter func68,ntmps68;go_upto_if 29 with fail
 refine wp_cond_true (by rfl) ?_;refine wp_exit ?_;repeat (first | (with_reducible refine ex_then ?_) | (with_reducible refine ex_skip (by decide) ?_))
 refine ex_hit ?_;refine ex_norm ?_;apply_assumption
 refine wp_mono (Q:=Out ?outB) ?outM (out_mono ?outR ?outP)
 case outR=>intro a w h;(repeat (first | (with_reducible refine rt_then ?_) | (with_reducible refine rt_blk ?_)));exact h
 case outP=>intro c a w h;(repeat (first | (with_reducible refine pn_then ?_) | (with_reducible refine pn_blk ?_)));exact h
 try simp only [hW0]
 go_wp2_with fail
 try rw[hW0]
 refine cI.mono ?_;intro e W1 hA;clear cI;by_cases h1:k1=3
 ·rw[if_pos h1] at hA hU
  by_cases h2:k2=3
  ·rw[if_pos h2] at hA hU
   obtain⟨rfl,hb1⟩:=hA;have cw:=cW h1 h2 W1;have HR1:=hid ((hb1.block (w.heap.size+2) (by omega)).trans HR.out);have hs1:=hb1.size;have HB1:=hid (HB.out.trans (hb1.mono HB.out.size));clear hb1 HR HB h1 h2 cW p0 p1 p2 p3 p4 p5 q0 q1 q2 q3 q4 q5;go_wp2_with fail
   refine cw.mono ?_;rintro e W2 ⟨rfl,rfl⟩;clear cw;have cK:=cK W2;unfold chkI at hU;rw[hU] at cK;have hU2:=hU;clear hU;go_wp2_with fail
   refine cK.mono ?_;intro e W3 hA;clear cK;cases U with
   | error c=>
    obtain⟨rfl,hb3⟩:=hA;exact⟨rfl,rfl,HB1.out.trans (hb3.mono HB1.out.size)⟩
   | ok y=>
    obtain⟨rfl,hb3⟩:=hA;have hr:=(hb3.block (w.heap.size+2) (by omega)).trans HR1.out;have HB3:=hid (HB1.out.trans (hb3.mono HB1.out.size));clear hb3 HB1 HR1 hU2;obtain⟨r0,r1,r2,r3,r4,r5⟩:=six_box hr;obtain⟨rf0,rf1,rf2,rf3,rf4,rf5⟩:=Base.frz6 hr;go_wp2_with fail
    obtain⟨W9,hW9⟩:=stc6 W3 (w.heap.size+2) (.int .i64 3) (.bool false) (.int .i64 y) (.string ⟨#[]⟩) (.slice none 0 0) (.slice none 0 0);rw[hW9];obtain⟨q1,q2,q3,q4⟩:=set6 _ _ _ _ _ _ hr hW9;refine out_ret (results_cell_row rfl _ W9 (w.heap.size+2) 26 _ (0,0) _ rfl q1 underlying26 rfl (by kernel_rfl)) rfl ?_;exact⟨rfl,q4 _ _ (by omega) HB3.out⟩
  ·rw[if_neg h2] at hA hU
   obtain⟨rfl,hb1⟩:=hA;subst hU;exact⟨rfl,rfl,HB.out.trans (hb1.mono HB.out.size)⟩
 ·rw[if_neg h1] at hA hU
  obtain⟨rfl,hb1⟩:=hA;subst hU;exact⟨rfl,rfl,HB.out.trans (hb1.mono HB.out.size)⟩
end Go.Proofs.YtdolgmmldncfkaaGreatDoor.VPn
namespace Go.Proofs.YtdolgmmldncfkaaGreatDoor.VJn
open Tak
open Go.RowKit Base VPure VSm VIn
def Tb (w:World):Prop:=∀ W',Below w.heap.size w W'->Digits.Tab W'
theorem Tb.below {w w':World} (h:Tb w) (hb:Below w.heap.size w w'):Tb w':=fun W hW=>h W (hb.trans (hW.mono hb.size))
theorem txt_le {m:Nat} {v:Value} {c:C} {w:World} (h:Base.In false All w m v c) {x:ByteArray} (hx:txt c=.ok x):x.size<=140737488351232:=by
 obtain⟨m',nv,lv,-,-,-,hi,hs,-,-⟩:=h.shape;unfold txt at hx;split at hx
 ·injection hx with hx
  subst hx;obtain⟨k,b,i,s,n,l⟩:=c;simp only [C.i, C.s] at hi hs;rw[TextKey.tx];have hl:=Lib.itoa_length_le i hi.1 hi.2;have he:(⟨(Lib.itoa i).toArray⟩ : ByteArray).size=(Lib.itoa i).length:=by show (Lib.itoa i).toArray.size=_;simp
  repeat' split
  all_goals first | decide | exact hs | (rw[he];omega)
 ·cases hx
theorem textOf_c {m:Nat} {v:Value} {c:C} {w:World} (h:Base.In false All w m v c) (ht:Tb w) :
  Calls prog 129 #[v] w fun e w'=>An w w' e Value.string (txt c):=by
 have hin:=h;obtain⟨m',nv,lv,hm,rfl,-⟩:=h.shape;obtain⟨W0,hW0⟩ : ∃ W0,w.alloc (.cells #[.int .i64 c.k,.bool c.b,.int .i64 c.i,.string c.s,nv,lv] 26)=W0:=⟨_,rfl⟩;have hb0:=alB hW0;have hp:=alG hW0;obtain⟨p0,p1,p2,p3,p4,p5⟩:=six_box hp;have cT:=TextKey.text_c (hin.below hb0) (ht W0 hb0);have HB:=hid hb0;unfold txt;generalize TextKey.te c=te at *
 generalize TextKey.tx c=tx at *
 generalize c.k=k at *
 generalize c.b=b at *
 generalize c.i=i at *
 generalize c.s=s at *
 clear h hin hb0 hp ht hm;by_cases he:te=0
 ·subst he
  rw[if_pos rfl];go_enter func129,ntmps129;go_wp2_with fail
  try rw[hW0]
  refine cT.mono ?_;rintro e W1 ⟨rfl,hb1⟩;have HB1:=hid (HB.out.trans (hb1.mono HB.out.size));have c1:=must_t W1;clear hb1 cT HB p0 p1 p2 p3 p4 p5 hW0;go_wp2_with fail
  refine c1.mono ?_;rintro e W2 ⟨⟨v2,rfl⟩,rfl⟩;go_wp2_with fail
  go_ret
  exact⟨rfl,HB1.out⟩
 ·rw[if_neg he]
  have d:(te == 0)=false:=by simp [he]
  clear he;go_enter func129,ntmps129;go_wp2_with fail
  try rw[hW0]
  refine cT.mono ?_;rintro e W1 ⟨rfl,hb1⟩;have HB1:=hid (HB.out.trans (hb1.mono HB.out.size));have c1:=must_f W1;clear hb1 cT HB p0 p1 p2 p3 p4 p5 hW0;go_wp2_with fail
  refine c1.mono ?_;rintro e W2 ⟨rfl,rfl⟩;exact⟨rfl,rfl,HB1.out⟩
theorem join_c {m1 m2:Nat} {c1 c2:C} (k1:Int) (b1:Bool) (i1:Int) (s1:ByteArray) (n1 l1:Value) (k2:Int) (b2:Bool) (i2:Int) (s2:ByteArray) (n2 l2:Value) {w:World} (hi1:Base.In false All w m1 (vl k1 b1 i1 s1 n1 l1) c1) (hi2:Base.In false All w m2 (vl k2 b2 i2 s2 n2 l2) c2) (ht:Tb w):Calls prog 98 #[vl k1 b1 i1 s1 n1 l1,vl k2 b2 i2 s2 n2 l2] w fun e w'=>An w w' e (fun s:ByteArray=>v0 4 false 0 s) (bnd (txt c1) fun x=>bnd (txt c2) fun y=>if 4096<x.size+y.size then .error 1107 else .ok (x ++ y)):=by
 obtain⟨W0,hW0,hs0,hb0,hp,hq,hr⟩:=two3 w #[.int .i64 k1,.bool b1,.int .i64 i1,.string s1,n1,l1] #[.int .i64 k2,.bool b2,.int .i64 i2,.string s2,n2,l2];have HP:=hid hp;have HQ:=hid hq;have HB:=hid hb0;have hsD:W0.drew.heap.size=w.heap.size+3:=by simp [hs0]
 obtain⟨p0,p1,p2,p3,p4,p5⟩:=six_box hp;obtain⟨q0,q1,q2,q3,q4,q5⟩:=six_box hq;have HR:=hid hr;have z1:∀ W,Below W0.drew.heap.size W0.drew W->Below w.heap.size w W:=fun W h=>bel_d hb0 h
 have cA:∀ W,Below w.heap.size w W->Calls prog 129 #[vl k1 b1 i1 s1 n1 l1] W fun e w'=>An W w' e Value.string (txt c1):=fun W h=>textOf_c (hi1.below h) (ht.below h)
 have cB:∀ W,Below w.heap.size w W->Calls prog 129 #[vl k2 b2 i2 s2 n2 l2] W fun e w'=>An W w' e Value.string (txt c2):=fun W h=>textOf_c (hi2.below h) (ht.below h)
 have cA:=cA _ (z1 _ (Below.refl _ _));have HcB:=hid cB;have hz1:=fun x=>@txt_le _ _ _ _ hi1 x
 have hz2:=fun x=>@txt_le _ _ _ _ hi2 x
 clear hp hq hb0 hr hi1 hi2 ht z1 cB;generalize txt c1=T1 at *
 generalize txt c2=T2 at *
 cases T1 with
 | error c=>
  go_enter func98,ntmps98;go_wp2_with fail
  try rw[hW0]
  refine rh12 w.heap.size (w.heap.size+1) k1 b1 i1 s1 n1 l1 k2 b2 i2 s2 n2 l2 (by kernel_rfl) (by first | assumption | go_keep) (fun hHeld=>?_);refine tkH 0 rfl ?_;try simp only [ptH]
  refine tkH 2 rfl ?_;try simp only [ptH]
  refine rdH [1] ?_;refine alH rfl fun K hK=>?_
  go_simp
  refine cA.mono ?_;rintro e W1 ⟨rfl,hb1⟩;exact⟨rfl,rfl,bel_d HB.out hb1⟩
 | ok x=>
  cases T2 with
  | error c=>
   go_enter func98,ntmps98;go_wp2_with fail
   try rw[hW0]
   refine rh12 w.heap.size (w.heap.size+1) k1 b1 i1 s1 n1 l1 k2 b2 i2 s2 n2 l2 (by kernel_rfl) (by first | assumption | go_keep) (fun hHeld=>?_);refine tkH 0 rfl ?_;try simp only [ptH]
   refine tkH 2 rfl ?_;try simp only [ptH]
   refine rdH [1] ?_;refine alH rfl fun K hK=>?_
   go_simp
   refine cA.mono ?_;rintro e W1 ⟨rfl,hb1⟩;have hp1:=(hb1.block w.heap.size (by rw[hsD];omega)).trans HP.out;have hq1:=(hb1.block (w.heap.size+1) (by rw[hsD];omega)).trans HQ.out;obtain⟨x0,x1,x2,x3,x4,x5⟩:=six_box hp1;obtain⟨y0,y1,y2,y3,y4,y5⟩:=six_box hq1;have HR1:Hid (W1.heap[w.heap.size+2]? = some (.cells #[.int .i64 0,.bool false,.int .i64 0,.string ⟨#[]⟩,.slice none 0 0,.slice none 0 0] 26 (0,0))):=(hb1.block (w.heap.size+2) (by rw[hsD];omega)).trans HR.out;have HB1:=hid (bel_d HB.out hb1);have HP1:=hid hp1;have HQ1:=hid hq1;have hs1:=hb1.size;rw[hsD] at hs1;have cB:=HcB.out W1 HB1.out;clear hp1 hq1 hb1 HR;go_wp2_with fail
   refine hK.out _ _ (by first | assumption | go_keep) (fun hHeld=>?_);clear hK K;try simp only [ptH]
   refine rdH [3] ?_;refine alH rfl fun K hK=>?_
   go_simp
   refine cB.mono ?_;rintro e W2 ⟨rfl,hb2⟩;exact⟨rfl,rfl,HB1.out.trans (hb2.mono HB1.out.size)⟩
  | ok y=>
   have hz1:=hz1 x rfl;have hz2:=hz2 y rfl;show Calls _ _ _ _ fun e w'=>An w w' e _ (if 4096<x.size+y.size then .error 1107 else .ok (x ++ y))
   by_cases hl:4096<x.size+y.size
   ·have d:decide ((4096:Int)<(x.size:Int)+(y.size:Int))=true:=decide_eq_true (by omega)
    rw[if_pos hl];unfold pkE at *;clear hl;go_enter func98,ntmps98;go_wp2_with fail
    try rw[hW0]
    refine rh12 w.heap.size (w.heap.size+1) k1 b1 i1 s1 n1 l1 k2 b2 i2 s2 n2 l2 (by kernel_rfl) (by first | assumption | go_keep) (fun hHeld=>?_);refine tkH 0 rfl ?_;try simp only [ptH]
    refine tkH 2 rfl ?_;try simp only [ptH]
    refine rdH [1] ?_;refine alH rfl fun K hK=>?_
    go_simp
    refine cA.mono ?_;rintro e W1 ⟨rfl,hb1⟩;have hp1:=(hb1.block w.heap.size (by rw[hsD];omega)).trans HP.out;have hq1:=(hb1.block (w.heap.size+1) (by rw[hsD];omega)).trans HQ.out;obtain⟨x0,x1,x2,x3,x4,x5⟩:=six_box hp1;obtain⟨y0,y1,y2,y3,y4,y5⟩:=six_box hq1;have HR1:Hid (W1.heap[w.heap.size+2]? = some (.cells #[.int .i64 0,.bool false,.int .i64 0,.string ⟨#[]⟩,.slice none 0 0,.slice none 0 0] 26 (0,0))):=(hb1.block (w.heap.size+2) (by rw[hsD];omega)).trans HR.out;have HB1:=hid (bel_d HB.out hb1);have HP1:=hid hp1;have HQ1:=hid hq1;have hs1:=hb1.size;rw[hsD] at hs1;have cB:=HcB.out W1 HB1.out;clear hp1 hq1 hb1 HR;go_wp2_with fail
    refine hK.out _ _ (by first | assumption | go_keep) (fun hHeld=>?_);clear hK K;try simp only [ptH]
    refine rdH [3] ?_;refine alH rfl fun K hK=>?_
    go_simp
    refine cB.mono ?_;rintro e W2 ⟨rfl,hb2⟩;obtain⟨z0,z1,z2,z3,z4,z5⟩:=six_box ((hb2.block w.heap.size (by omega)).trans HP1.out);obtain⟨t0,t1,t2,t3,t4,t5⟩:=six_box ((hb2.block (w.heap.size+1) (by omega)).trans HQ1.out);have HR2:=hid ((hb2.block (w.heap.size+2) (by omega)).trans HR1.out);have HB2:=hid (HB1.out.trans (hb2.mono HB1.out.size));have hs2:=hb2.size;clear hb2;go_wp2_with fail
    refine hK.out _ _ (by first | assumption | go_keep) (fun hHeld=>?_);clear hK K;try simp only [ptH]
    refine tkH 4 rfl ?_;try simp only [ptH]
    refine tkH 5 rfl ?_;try simp only [ptH]
    refine dnH ?_;clear HP HQ HP1 HQ1 HcB cA cB p0 p1 p2 p3 p4 p5 q0 q1 q2 q3 q4 q5 x0 x1 x2 x3 x4 x5 y0 y1 y2 y3 y4 y5 z0 z1 z2 z3 z4 z5 t0 t1 t2 t3 t4 t5 hHeld;go_wp2_with fail
    exact⟨rfl,rfl,HB2.out⟩
   ·have d:decide ((4096:Int)<(x.size:Int)+(y.size:Int))=false:=decide_eq_false (by omega)
    rw[if_neg hl];have hsm:x.size+y.size<=4096:=by omega
    clear hl;go_enter func98,ntmps98;go_wp2_with fail
    try rw[hW0]
    refine rh12 w.heap.size (w.heap.size+1) k1 b1 i1 s1 n1 l1 k2 b2 i2 s2 n2 l2 (by kernel_rfl) (by first | assumption | go_keep) (fun hHeld=>?_);refine tkH 0 rfl ?_;try simp only [ptH]
    refine tkH 2 rfl ?_;try simp only [ptH]
    refine rdH [1] ?_;refine alH rfl fun K hK=>?_
    go_simp
    refine cA.mono ?_;rintro e W1 ⟨rfl,hb1⟩;have hp1:=(hb1.block w.heap.size (by rw[hsD];omega)).trans HP.out;have hq1:=(hb1.block (w.heap.size+1) (by rw[hsD];omega)).trans HQ.out;obtain⟨x0,x1,x2,x3,x4,x5⟩:=six_box hp1;obtain⟨y0,y1,y2,y3,y4,y5⟩:=six_box hq1;have HR1:Hid (W1.heap[w.heap.size+2]? = some (.cells #[.int .i64 0,.bool false,.int .i64 0,.string ⟨#[]⟩,.slice none 0 0,.slice none 0 0] 26 (0,0))):=(hb1.block (w.heap.size+2) (by rw[hsD];omega)).trans HR.out;have HB1:=hid (bel_d HB.out hb1);have HP1:=hid hp1;have HQ1:=hid hq1;have hs1:=hb1.size;rw[hsD] at hs1;have cB:=HcB.out W1 HB1.out;clear hp1 hq1 hb1 HR;go_wp2_with fail
    refine hK.out _ _ (by first | assumption | go_keep) (fun hHeld=>?_);clear hK K;try simp only [ptH]
    refine rdH [3] ?_;refine alH rfl fun K hK=>?_
    go_simp
    refine cB.mono ?_;rintro e W2 ⟨rfl,hb2⟩;obtain⟨z0,z1,z2,z3,z4,z5⟩:=six_box ((hb2.block w.heap.size (by omega)).trans HP1.out);obtain⟨t0,t1,t2,t3,t4,t5⟩:=six_box ((hb2.block (w.heap.size+1) (by omega)).trans HQ1.out);have HR2:=hid ((hb2.block (w.heap.size+2) (by omega)).trans HR1.out);have HB2:=hid (HB1.out.trans (hb2.mono HB1.out.size));have hs2:=hb2.size;clear hb2;go_wp2_with fail
    refine hK.out _ _ (by first | assumption | go_keep) (fun hHeld=>?_);clear hK K;try simp only [ptH]
    refine tkH 4 rfl ?_;try simp only [ptH]
    refine tkH 5 rfl ?_;try simp only [ptH]
    refine dnH ?_;clear HP HQ HP1 HQ1 HcB cA cB p0 p1 p2 p3 p4 p5 q0 q1 q2 q3 q4 q5 x0 x1 x2 x3 x4 x5 y0 y1 y2 y3 y4 y5 z0 z1 z2 z3 z4 z5 t0 t1 t2 t3 t4 t5 hHeld;have cX:=text_c (x ++ y) W2;go_wp2_with fail
    refine cX.mono ?_;rintro e W3 ⟨rfl,hb3⟩;have hr:=(hb3.block (w.heap.size+2) (by omega)).trans HR2.out;have HB3:=hid (HB2.out.trans (hb3.mono HB2.out.size));clear hb3 cX;obtain⟨r0,r1,r2,r3,r4,r5⟩:=six_box hr;obtain⟨rf0,rf1,rf2,rf3,rf4,rf5⟩:=Base.frz6 hr;go_wp2_with fail
    obtain⟨W9,hW9⟩:=stc6 W3 (w.heap.size+2) (.int .i64 4) (.bool false) (.int .i64 0) (.string (x ++ y)) (.slice none 0 0) (.slice none 0 0);rw[hW9];obtain⟨q1,q2,q3,q4⟩:=set6 _ _ _ _ _ _ hr hW9;refine bodyPost_ret (results_cell_row rfl _ W9 (w.heap.size+2) 26 _ (0,0) _ rfl q1 underlying26 rfl (by kernel_rfl)) rfl ?_;exact⟨rfl,q4 _ _ (by omega) HB3.out⟩
end Go.Proofs.YtdolgmmldncfkaaGreatDoor.VJn

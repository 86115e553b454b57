import Derived.Test.YtdolgmmldncfkaaGreatDoorPJ06
import Derived.Test.YtdolgmmldncfkaaGreatDoorPJ07
open Go.Proofs.Tryz
set_option linter.unusedVariables false
set_option maxRecDepth 100000
set_option maxHeartbeats 3200000
namespace Go.Proofs.YtdolgmmldncfkaaGreatDoor.VBi
open Go.RowKit Base VPure VSm VIn VEx
theorem bit_rng (o x y:Int) : -9223372036854775808<=bit o x y/\bit o x y<=9223372036854775807:=by
 unfold bit;repeat' split
 all_goals (unfold Go.bits;simp only [];rw[IntKind.wrap_i64];omega)
theorem bits_20 (k1:Int) (b1:Bool) (i1:Int) (s1:ByteArray) (n1 l1:Value) (k2:Int) (b2:Bool) (i2:Int) (s2:ByteArray) (n2 l2:Value) (w:World) :
  Calls prog 97 #[.int .i64 20,vl k1 b1 i1 s1 n1 l1,vl k2 b2 i2 s2 n2 l2] w fun e w'=>An w w' e (fun c:Int=>v0 3 false c ⟨#[]⟩) (twX k1 k2 (bit 20 i1 i2)):=by
 obtain⟨W0,hW0,hs0,hb0,hp,hq,hr⟩:=two3 w #[.int .i64 k1,.bool b1,.int .i64 i1,.string s1,n1,l1] #[.int .i64 k2,.bool b2,.int .i64 i2,.string s2,n2,l2];have HR:=hid hr;have HB:=hid hb0;obtain⟨p0,p1,p2,p3,p4,p5⟩:=six_box hp;obtain⟨q0,q1,q2,q3,q4,q5⟩:=six_box hq;have cI:=integers_c k1 b1 i1 s1 n1 l1 k2 b2 i2 s2 n2 l2 W0;have eX:Go.bits .and .i64 i1 i2=bit 20 i1 i2:=rfl;obtain⟨X,hX⟩ : ∃ X,bit 20 i1 i2=X:=⟨_,rfl⟩;rw[hX] at eX ⊢;have cN:=number_c X;obtain⟨U,hU⟩ : ∃ U,twX k1 k2 X=U:=⟨_,rfl⟩;rw[hU];unfold twX at hU;clear hp hq hb0 hr hX;go_enter func97,ntmps97;go_wp2_with fail
 try rw[hW0]
 refine cI.mono ?_;intro e W1 hA;clear cI;by_cases h1:k1=3
 ·rw[if_pos h1] at hA hU
  by_cases h2:k2=3
  ·rw[if_pos h2] at hA hU
   obtain⟨rfl,hb1⟩:=hA;have HR1:=hid ((hb1.block (w.heap.size+2) (by omega)).trans HR.out);have hs1:=hb1.size;have HB1:=hid (HB.out.trans (hb1.mono HB.out.size));clear hb1 HR HB p0 p1 p2 p3 p4 p5 q0 q1 q2 q3 q4 q5 h1 h2;have HU:=hid hU;clear hU;go_wp2_with fail
   refine (cN _).mono ?_;rintro e W2 ⟨rfl,hb2⟩;clear cN eX;have hr:=(hb2.block (w.heap.size+2) (by omega)).trans HR1.out;have HB2:=hid (HB1.out.trans (hb2.mono HB1.out.size));clear hb2 HB1 HR1;obtain⟨r0,r1,r2,r3,r4,r5⟩:=six_box hr;obtain⟨rf0,rf1,rf2,rf3,rf4,rf5⟩:=Base.frz6 hr;go_wp2_with fail
   obtain⟨W9,hW9⟩:=stc6 W2 (w.heap.size+2) (.int .i64 3) (.bool false) (.int .i64 X) (.string ⟨#[]⟩) (.slice none 0 0) (.slice none 0 0);rw[hW9];obtain⟨q1,q2,q3,q4⟩:=set6 _ _ _ _ _ _ hr hW9;first | refine out_ret (results_cell_row rfl _ W9 (w.heap.size+2) 26 _ (0,0) _ rfl q1 underlying26 rfl (by kernel_rfl)) rfl ?_ | refine bodyPost_ret (results_cell_row rfl _ W9 (w.heap.size+2) 26 _ (0,0) _ rfl q1 underlying26 rfl (by kernel_rfl)) rfl ?_
   rw[<- HU.out];exact⟨rfl,q4 _ _ (by omega) HB2.out⟩
  ·rw[if_neg h2] at hA hU
   obtain⟨rfl,hb1⟩:=hA;subst hU;exact⟨rfl,rfl,HB.out.trans (hb1.mono HB.out.size)⟩
 ·rw[if_neg h1] at hA hU
  obtain⟨rfl,hb1⟩:=hA;subst hU;exact⟨rfl,rfl,HB.out.trans (hb1.mono HB.out.size)⟩
theorem bits_21 (k1:Int) (b1:Bool) (i1:Int) (s1:ByteArray) (n1 l1:Value) (k2:Int) (b2:Bool) (i2:Int) (s2:ByteArray) (n2 l2:Value) (w:World) :
  Calls prog 97 #[.int .i64 21,vl k1 b1 i1 s1 n1 l1,vl k2 b2 i2 s2 n2 l2] w fun e w'=>An w w' e (fun c:Int=>v0 3 false c ⟨#[]⟩) (twX k1 k2 (bit 21 i1 i2)):=by
 obtain⟨W0,hW0,hs0,hb0,hp,hq,hr⟩:=two3 w #[.int .i64 k1,.bool b1,.int .i64 i1,.string s1,n1,l1] #[.int .i64 k2,.bool b2,.int .i64 i2,.string s2,n2,l2];have HR:=hid hr;have HB:=hid hb0;obtain⟨p0,p1,p2,p3,p4,p5⟩:=six_box hp;obtain⟨q0,q1,q2,q3,q4,q5⟩:=six_box hq;have cI:=integers_c k1 b1 i1 s1 n1 l1 k2 b2 i2 s2 n2 l2 W0;have eX:Go.bits .xor .i64 i1 i2=bit 21 i1 i2:=rfl;obtain⟨X,hX⟩ : ∃ X,bit 21 i1 i2=X:=⟨_,rfl⟩;rw[hX] at eX ⊢;have cN:=number_c X;obtain⟨U,hU⟩ : ∃ U,twX k1 k2 X=U:=⟨_,rfl⟩;rw[hU];unfold twX at hU;clear hp hq hb0 hr hX;go_enter func97,ntmps97;go_wp2_with fail
 try rw[hW0]
 refine cI.mono ?_;intro e W1 hA;clear cI;by_cases h1:k1=3
 ·rw[if_pos h1] at hA hU
  by_cases h2:k2=3
  ·rw[if_pos h2] at hA hU
   obtain⟨rfl,hb1⟩:=hA;have HR1:=hid ((hb1.block (w.heap.size+2) (by omega)).trans HR.out);have hs1:=hb1.size;have HB1:=hid (HB.out.trans (hb1.mono HB.out.size));clear hb1 HR HB p0 p1 p2 p3 p4 p5 q0 q1 q2 q3 q4 q5 h1 h2;have HU:=hid hU;clear hU;go_wp2_with fail
   refine (cN _).mono ?_;rintro e W2 ⟨rfl,hb2⟩;clear cN eX;have hr:=(hb2.block (w.heap.size+2) (by omega)).trans HR1.out;have HB2:=hid (HB1.out.trans (hb2.mono HB1.out.size));clear hb2 HB1 HR1;obtain⟨r0,r1,r2,r3,r4,r5⟩:=six_box hr;obtain⟨rf0,rf1,rf2,rf3,rf4,rf5⟩:=Base.frz6 hr;go_wp2_with fail
   obtain⟨W9,hW9⟩:=stc6 W2 (w.heap.size+2) (.int .i64 3) (.bool false) (.int .i64 X) (.string ⟨#[]⟩) (.slice none 0 0) (.slice none 0 0);rw[hW9];obtain⟨q1,q2,q3,q4⟩:=set6 _ _ _ _ _ _ hr hW9;first | refine out_ret (results_cell_row rfl _ W9 (w.heap.size+2) 26 _ (0,0) _ rfl q1 underlying26 rfl (by kernel_rfl)) rfl ?_ | refine bodyPost_ret (results_cell_row rfl _ W9 (w.heap.size+2) 26 _ (0,0) _ rfl q1 underlying26 rfl (by kernel_rfl)) rfl ?_
   rw[<- HU.out];exact⟨rfl,q4 _ _ (by omega) HB2.out⟩
  ·rw[if_neg h2] at hA hU
   obtain⟨rfl,hb1⟩:=hA;subst hU;exact⟨rfl,rfl,HB.out.trans (hb1.mono HB.out.size)⟩
 ·rw[if_neg h1] at hA hU
  obtain⟨rfl,hb1⟩:=hA;subst hU;exact⟨rfl,rfl,HB.out.trans (hb1.mono HB.out.size)⟩
theorem bits_22 (k1:Int) (b1:Bool) (i1:Int) (s1:ByteArray) (n1 l1:Value) (k2:Int) (b2:Bool) (i2:Int) (s2:ByteArray) (n2 l2:Value) (w:World) :
  Calls prog 97 #[.int .i64 22,vl k1 b1 i1 s1 n1 l1,vl k2 b2 i2 s2 n2 l2] w fun e w'=>An w w' e (fun c:Int=>v0 3 false c ⟨#[]⟩) (twX k1 k2 (bit 22 i1 i2)):=by
 obtain⟨W0,hW0,hs0,hb0,hp,hq,hr⟩:=two3 w #[.int .i64 k1,.bool b1,.int .i64 i1,.string s1,n1,l1] #[.int .i64 k2,.bool b2,.int .i64 i2,.string s2,n2,l2];have HR:=hid hr;have HB:=hid hb0;obtain⟨p0,p1,p2,p3,p4,p5⟩:=six_box hp;obtain⟨q0,q1,q2,q3,q4,q5⟩:=six_box hq;have cI:=integers_c k1 b1 i1 s1 n1 l1 k2 b2 i2 s2 n2 l2 W0;have eX:Go.bits .or .i64 i1 i2=bit 22 i1 i2:=rfl;obtain⟨X,hX⟩ : ∃ X,bit 22 i1 i2=X:=⟨_,rfl⟩;rw[hX] at eX ⊢;have cN:=number_c X;obtain⟨U,hU⟩ : ∃ U,twX k1 k2 X=U:=⟨_,rfl⟩;rw[hU];unfold twX at hU;clear hp hq hb0 hr hX;go_enter func97,ntmps97;go_wp2_with fail
 try rw[hW0]
 refine cI.mono ?_;intro e W1 hA;clear cI;by_cases h1:k1=3
 ·rw[if_pos h1] at hA hU
  by_cases h2:k2=3
  ·rw[if_pos h2] at hA hU
   obtain⟨rfl,hb1⟩:=hA;have HR1:=hid ((hb1.block (w.heap.size+2) (by omega)).trans HR.out);have hs1:=hb1.size;have HB1:=hid (HB.out.trans (hb1.mono HB.out.size));clear hb1 HR HB p0 p1 p2 p3 p4 p5 q0 q1 q2 q3 q4 q5 h1 h2;have HU:=hid hU;clear hU;go_wp2_with fail
   refine (cN _).mono ?_;rintro e W2 ⟨rfl,hb2⟩;clear cN eX;have hr:=(hb2.block (w.heap.size+2) (by omega)).trans HR1.out;have HB2:=hid (HB1.out.trans (hb2.mono HB1.out.size));clear hb2 HB1 HR1;obtain⟨r0,r1,r2,r3,r4,r5⟩:=six_box hr;obtain⟨rf0,rf1,rf2,rf3,rf4,rf5⟩:=Base.frz6 hr;go_wp2_with fail
   obtain⟨W9,hW9⟩:=stc6 W2 (w.heap.size+2) (.int .i64 3) (.bool false) (.int .i64 X) (.string ⟨#[]⟩) (.slice none 0 0) (.slice none 0 0);rw[hW9];obtain⟨q1,q2,q3,q4⟩:=set6 _ _ _ _ _ _ hr hW9;first | refine out_ret (results_cell_row rfl _ W9 (w.heap.size+2) 26 _ (0,0) _ rfl q1 underlying26 rfl (by kernel_rfl)) rfl ?_ | refine bodyPost_ret (results_cell_row rfl _ W9 (w.heap.size+2) 26 _ (0,0) _ rfl q1 underlying26 rfl (by kernel_rfl)) rfl ?_
   rw[<- HU.out];exact⟨rfl,q4 _ _ (by omega) HB2.out⟩
  ·rw[if_neg h2] at hA hU
   obtain⟨rfl,hb1⟩:=hA;subst hU;exact⟨rfl,rfl,HB.out.trans (hb1.mono HB.out.size)⟩
 ·rw[if_neg h1] at hA hU
  obtain⟨rfl,hb1⟩:=hA;subst hU;exact⟨rfl,rfl,HB.out.trans (hb1.mono HB.out.size)⟩
theorem pair_20 (k1:Int) (b1:Bool) (i1:Int) (s1:ByteArray) (n1 l1:Value) (k2:Int) (b2:Bool) (i2:Int) (s2:ByteArray) (n2 l2:Value) (w:World) :
  Calls prog 68 #[.int .i64 20,vl k1 b1 i1 s1 n1 l1,vl k2 b2 i2 s2 n2 l2] w fun e w'=>An w w' e (fun c:Int=>v0 3 false c ⟨#[]⟩) (twX k1 k2 (bit 20 i1 i2)):=by
 obtain⟨W0,hW0,hs0,hb0,hp,hq,hr⟩:=two3 w #[.int .i64 k1,.bool b1,.int .i64 i1,.string s1,n1,l1] #[.int .i64 k2,.bool b2,.int .i64 i2,.string s2,n2,l2];have HR:=hid hr;have HB:=hid hb0;obtain⟨p0,p1,p2,p3,p4,p5⟩:=six_box hp;obtain⟨q0,q1,q2,q3,q4,q5⟩:=six_box hq;have cI:=bits_20 k1 b1 i1 s1 n1 l1 k2 b2 i2 s2 n2 l2 W0;obtain⟨U,hU⟩ : ∃ U,twX k1 k2 (bit 20 i1 i2)=U:=⟨_,rfl⟩;rw[hU] at cI ⊢;clear hp hq hb0 hr hU;go_enter func68,ntmps68;go_upto_if 31 with fail
 refine wp_cond_true (by rfl) ?_;refine wp_skip ?_;refine ex_norm ?_;apply_assumption
 go_upto_if 31 with fail
 refine wp_cond_true (by rfl) ?_;refine wp_exit ?_;repeat (first | (with_reducible refine ex_then ?_) | (with_reducible refine ex_skip (by decide) ?_))
 refine ex_hit ?_;refine ex_norm ?_;apply_assumption
 refine wp_mono (Q:=Out ?outB) ?outM (out_mono ?outR ?outP)
 case outR=>intro a w h;(repeat (first | (with_reducible refine rt_then ?_) | (with_reducible refine rt_blk ?_)));exact h
 case outP=>intro c a w h;(repeat (first | (with_reducible refine pn_then ?_) | (with_reducible refine pn_blk ?_)));exact h
 try simp only [hW0]
 go_wp2_with fail
 try rw[hW0]
 refine cI.mono ?_;intro e W2 hA;clear cI;cases U with
 | error c=>
  obtain⟨rfl,hb1⟩:=hA;exact⟨rfl,rfl,HB.out.trans (hb1.mono HB.out.size)⟩
 | ok y=>
  obtain⟨rfl,hb2⟩:=hA;have HR1:=HR;have HB1:=HB;clear HR HB;have hr:=(hb2.block (w.heap.size+2) (by omega)).trans HR1.out;have HB2:=hid (HB1.out.trans (hb2.mono HB1.out.size));clear hb2 HB1 HR1;obtain⟨r0,r1,r2,r3,r4,r5⟩:=six_box hr;obtain⟨rf0,rf1,rf2,rf3,rf4,rf5⟩:=Base.frz6 hr;go_wp2_with fail
  obtain⟨W9,hW9⟩:=stc6 W2 (w.heap.size+2) (.int .i64 3) (.bool false) (.int .i64 y) (.string ⟨#[]⟩) (.slice none 0 0) (.slice none 0 0);rw[hW9];obtain⟨q1,q2,q3,q4⟩:=set6 _ _ _ _ _ _ hr hW9;first | refine out_ret (results_cell_row rfl _ W9 (w.heap.size+2) 26 _ (0,0) _ rfl q1 underlying26 rfl (by kernel_rfl)) rfl ?_ | refine bodyPost_ret (results_cell_row rfl _ W9 (w.heap.size+2) 26 _ (0,0) _ rfl q1 underlying26 rfl (by kernel_rfl)) rfl ?_
  exact⟨rfl,q4 _ _ (by omega) HB2.out⟩
theorem pair_21 (k1:Int) (b1:Bool) (i1:Int) (s1:ByteArray) (n1 l1:Value) (k2:Int) (b2:Bool) (i2:Int) (s2:ByteArray) (n2 l2:Value) (w:World) :
  Calls prog 68 #[.int .i64 21,vl k1 b1 i1 s1 n1 l1,vl k2 b2 i2 s2 n2 l2] w fun e w'=>An w w' e (fun c:Int=>v0 3 false c ⟨#[]⟩) (twX k1 k2 (bit 21 i1 i2)):=by
 obtain⟨W0,hW0,hs0,hb0,hp,hq,hr⟩:=two3 w #[.int .i64 k1,.bool b1,.int .i64 i1,.string s1,n1,l1] #[.int .i64 k2,.bool b2,.int .i64 i2,.string s2,n2,l2];have HR:=hid hr;have HB:=hid hb0;obtain⟨p0,p1,p2,p3,p4,p5⟩:=six_box hp;obtain⟨q0,q1,q2,q3,q4,q5⟩:=six_box hq;have cI:=bits_21 k1 b1 i1 s1 n1 l1 k2 b2 i2 s2 n2 l2 W0;obtain⟨U,hU⟩ : ∃ U,twX k1 k2 (bit 21 i1 i2)=U:=⟨_,rfl⟩;rw[hU] at cI ⊢;clear hp hq hb0 hr hU;go_enter func68,ntmps68;go_upto_if 31 with fail
 refine wp_cond_false (by rfl) ?_;go_upto_if 31 with fail
 refine wp_cond_true (by rfl) ?_;refine wp_skip ?_;refine ex_norm ?_;apply_assumption
 go_upto_if 31 with fail
 refine wp_cond_true (by rfl) ?_;refine wp_exit ?_;repeat (first | (with_reducible refine ex_then ?_) | (with_reducible refine ex_skip (by decide) ?_))
 refine ex_hit ?_;refine ex_norm ?_;apply_assumption
 refine wp_mono (Q:=Out ?outB) ?outM (out_mono ?outR ?outP)
 case outR=>intro a w h;(repeat (first | (with_reducible refine rt_then ?_) | (with_reducible refine rt_blk ?_)));exact h
 case outP=>intro c a w h;(repeat (first | (with_reducible refine pn_then ?_) | (with_reducible refine pn_blk ?_)));exact h
 try simp only [hW0]
 go_wp2_with fail
 try rw[hW0]
 refine cI.mono ?_;intro e W2 hA;clear cI;cases U with
 | error c=>
  obtain⟨rfl,hb1⟩:=hA;exact⟨rfl,rfl,HB.out.trans (hb1.mono HB.out.size)⟩
 | ok y=>
  obtain⟨rfl,hb2⟩:=hA;have HR1:=HR;have HB1:=HB;clear HR HB;have hr:=(hb2.block (w.heap.size+2) (by omega)).trans HR1.out;have HB2:=hid (HB1.out.trans (hb2.mono HB1.out.size));clear hb2 HB1 HR1;obtain⟨r0,r1,r2,r3,r4,r5⟩:=six_box hr;obtain⟨rf0,rf1,rf2,rf3,rf4,rf5⟩:=Base.frz6 hr;go_wp2_with fail
  obtain⟨W9,hW9⟩:=stc6 W2 (w.heap.size+2) (.int .i64 3) (.bool false) (.int .i64 y) (.string ⟨#[]⟩) (.slice none 0 0) (.slice none 0 0);rw[hW9];obtain⟨q1,q2,q3,q4⟩:=set6 _ _ _ _ _ _ hr hW9;first | refine out_ret (results_cell_row rfl _ W9 (w.heap.size+2) 26 _ (0,0) _ rfl q1 underlying26 rfl (by kernel_rfl)) rfl ?_ | refine bodyPost_ret (results_cell_row rfl _ W9 (w.heap.size+2) 26 _ (0,0) _ rfl q1 underlying26 rfl (by kernel_rfl)) rfl ?_
  exact⟨rfl,q4 _ _ (by omega) HB2.out⟩
theorem pair_22 (k1:Int) (b1:Bool) (i1:Int) (s1:ByteArray) (n1 l1:Value) (k2:Int) (b2:Bool) (i2:Int) (s2:ByteArray) (n2 l2:Value) (w:World) :
  Calls prog 68 #[.int .i64 22,vl k1 b1 i1 s1 n1 l1,vl k2 b2 i2 s2 n2 l2] w fun e w'=>An w w' e (fun c:Int=>v0 3 false c ⟨#[]⟩) (twX k1 k2 (bit 22 i1 i2)):=by
 obtain⟨W0,hW0,hs0,hb0,hp,hq,hr⟩:=two3 w #[.int .i64 k1,.bool b1,.int .i64 i1,.string s1,n1,l1] #[.int .i64 k2,.bool b2,.int .i64 i2,.string s2,n2,l2];have HR:=hid hr;have HB:=hid hb0;obtain⟨p0,p1,p2,p3,p4,p5⟩:=six_box hp;obtain⟨q0,q1,q2,q3,q4,q5⟩:=six_box hq;have cI:=bits_22 k1 b1 i1 s1 n1 l1 k2 b2 i2 s2 n2 l2 W0;obtain⟨U,hU⟩ : ∃ U,twX k1 k2 (bit 22 i1 i2)=U:=⟨_,rfl⟩;rw[hU] at cI ⊢;clear hp hq hb0 hr hU;go_enter func68,ntmps68;go_upto_if 31 with fail
 refine wp_cond_false (by rfl) ?_;go_upto_if 31 with fail
 refine wp_cond_false (by rfl) ?_;go_upto_if 31 with fail
 refine wp_cond_true (by rfl) ?_;refine wp_exit ?_;repeat (first | (with_reducible refine ex_then ?_) | (with_reducible refine ex_skip (by decide) ?_))
 refine ex_hit ?_;refine ex_norm ?_;apply_assumption
 refine wp_mono (Q:=Out ?outB) ?outM (out_mono ?outR ?outP)
 case outR=>intro a w h;(repeat (first | (with_reducible refine rt_then ?_) | (with_reducible refine rt_blk ?_)));exact h
 case outP=>intro c a w h;(repeat (first | (with_reducible refine pn_then ?_) | (with_reducible refine pn_blk ?_)));exact h
 try simp only [hW0]
 go_wp2_with fail
 try rw[hW0]
 refine cI.mono ?_;intro e W2 hA;clear cI;cases U with
 | error c=>
  obtain⟨rfl,hb1⟩:=hA;exact⟨rfl,rfl,HB.out.trans (hb1.mono HB.out.size)⟩
 | ok y=>
  obtain⟨rfl,hb2⟩:=hA;have HR1:=HR;have HB1:=HB;clear HR HB;have hr:=(hb2.block (w.heap.size+2) (by omega)).trans HR1.out;have HB2:=hid (HB1.out.trans (hb2.mono HB1.out.size));clear hb2 HB1 HR1;obtain⟨r0,r1,r2,r3,r4,r5⟩:=six_box hr;obtain⟨rf0,rf1,rf2,rf3,rf4,rf5⟩:=Base.frz6 hr;go_wp2_with fail
  obtain⟨W9,hW9⟩:=stc6 W2 (w.heap.size+2) (.int .i64 3) (.bool false) (.int .i64 y) (.string ⟨#[]⟩) (.slice none 0 0) (.slice none 0 0);rw[hW9];obtain⟨q1,q2,q3,q4⟩:=set6 _ _ _ _ _ _ hr hW9;first | refine out_ret (results_cell_row rfl _ W9 (w.heap.size+2) 26 _ (0,0) _ rfl q1 underlying26 rfl (by kernel_rfl)) rfl ?_ | refine bodyPost_ret (results_cell_row rfl _ W9 (w.heap.size+2) 26 _ (0,0) _ rfl q1 underlying26 rfl (by kernel_rfl)) rfl ?_
  exact⟨rfl,q4 _ _ (by omega) HB2.out⟩
theorem pair_11 (k1:Int) (b1:Bool) (i1:Int) (s1:ByteArray) (n1 l1:Value) (k2:Int) (b2:Bool) (i2:Int) (s2:ByteArray) (n2 l2:Value) (w:World) :
  Calls prog 68 #[.int .i64 11,vl k1 b1 i1 s1 n1 l1,vl k2 b2 i2 s2 n2 l2] w fun e w'=>An w w' e (fun c:Bool=>v0 2 c 0 ⟨#[]⟩) (if k1=2 then .ok (!b1) else .error 1101):=by
 obtain⟨W0,hW0,hs0,hb0,hp,hq,hr⟩:=two3 w #[.int .i64 k1,.bool b1,.int .i64 i1,.string s1,n1,l1] #[.int .i64 k2,.bool b2,.int .i64 i2,.string s2,n2,l2];have HR:=hid hr;have HB:=hid hb0;obtain⟨p0,p1,p2,p3,p4,p5⟩:=six_box hp;obtain⟨q0,q1,q2,q3,q4,q5⟩:=six_box hq;have cI:=isTrue_c k1 b1 i1 s1 n1 l1 W0;have cT:=truth_c (!b1);obtain⟨B,hB⟩ : ∃ B,(!b1)=B:=⟨_,rfl⟩;rw[hB] at cT ⊢;obtain⟨U,hU⟩ : ∃ U,(if k1=2 then (.ok B:Except Nat Bool) else .error 1101)=U:=⟨_,rfl⟩;rw[hU];clear hp hq hb0 hr;go_enter func68,ntmps68;go_upto_if 13 with fail
 refine wp_cond_true (by rfl) ?_;refine wp_exit ?_;repeat (first | (with_reducible refine ex_then ?_) | (with_reducible refine ex_skip (by decide) ?_))
 refine ex_hit ?_;refine ex_norm ?_;apply_assumption
 refine wp_mono (Q:=Out ?outB) ?outM (out_mono ?outR ?outP)
 case outR=>intro a w h;(repeat (first | (with_reducible refine rt_then ?_) | (with_reducible refine rt_blk ?_)));exact h
 case outP=>intro c a w h;(repeat (first | (with_reducible refine pn_then ?_) | (with_reducible refine pn_blk ?_)));exact h
 try simp only [hW0]
 go_wp2_with fail
 try rw[hW0]
 refine cI.mono ?_;intro e W1 hA;clear cI;by_cases h1:k1=2
 ·rw[if_pos h1] at hA hU
  obtain⟨rfl,hb1⟩:=hA;have HR1:=hid ((hb1.block (w.heap.size+2) (by omega)).trans HR.out);have hs1:=hb1.size;have HB1:=hid (HB.out.trans (hb1.mono HB.out.size));clear hb1 HR HB p0 p1 p2 p3 p4 p5 q0 q1 q2 q3 q4 q5 h1;have HU:=hid hU;clear hU;go_wp2_with fail
  refine (cT _).mono ?_;rintro e W2 ⟨rfl,hb2⟩;clear cT;have hr:=(hb2.block (w.heap.size+2) (by omega)).trans HR1.out;have HB2:=hid (HB1.out.trans (hb2.mono HB1.out.size));clear hb2 HB1 HR1;obtain⟨r0,r1,r2,r3,r4,r5⟩:=six_box hr;obtain⟨rf0,rf1,rf2,rf3,rf4,rf5⟩:=Base.frz6 hr;go_wp2_with fail
  obtain⟨W9,hW9⟩:=stc6 W2 (w.heap.size+2) (.int .i64 2) (.bool B) (.int .i64 0) (.string ⟨#[]⟩) (.slice none 0 0) (.slice none 0 0);rw[hW9];obtain⟨q1,q2,q3,q4⟩:=set6 _ _ _ _ _ _ hr hW9;first | refine out_ret (results_cell_row rfl _ W9 (w.heap.size+2) 26 _ (0,0) _ rfl q1 underlying26 rfl (by kernel_rfl)) rfl ?_ | refine bodyPost_ret (results_cell_row rfl _ W9 (w.heap.size+2) 26 _ (0,0) _ rfl q1 underlying26 rfl (by kernel_rfl)) rfl ?_
  rw[<- HU.out];exact⟨rfl,q4 _ _ (by omega) HB2.out⟩
 ·rw[if_neg h1] at hA hU
  obtain⟨rfl,hb1⟩:=hA;subst hU;exact⟨rfl,rfl,HB.out.trans (hb1.mono HB.out.size)⟩
end Go.Proofs.YtdolgmmldncfkaaGreatDoor.VBi
namespace Go.Proofs.YtdolgmmldncfkaaGreatDoor.VTo
open Go.RowKit Base VPure VSm Sums
theorem tun_rng (n x:Int) : -9223372036854775808<=tun n x/\tun n x<=9223372036854775807:=by
 unfold tun;repeat' split
 all_goals omega
theorem wrap_i8 (a:Int):IntKind.i8.wrap a=(a+128) % 256 - 128:=by
 simp only [IntKind.wrap, IntKind.bits, IntKind.signed, Bool.true_and, decide_eq_true_eq, Nat.reduceSub, Int.reducePow, ge_iff_le];split <;> omega
theorem wrap_u16 (a:Int):IntKind.u16.wrap a=a % 65536:=by
 simp [IntKind.wrap, IntKind.bits, IntKind.signed]
theorem wrap_i16 (a:Int):IntKind.i16.wrap a=(a+32768) % 65536 - 32768:=by
 simp only [IntKind.wrap, IntKind.bits, IntKind.signed, Bool.true_and, decide_eq_true_eq, Nat.reduceSub, Int.reducePow, ge_iff_le];split <;> omega
theorem w64 {a:Int} (h : -9223372036854775808<=a/\a<=9223372036854775807):wrap64 a=a:=by unfold wrap64;omega
theorem to_3 (a:Int) (w:World) :
  Calls prog 130 #[.int .i64 a,.int .i64 8,.bool true] w fun e w'=>e=.returned (.tuple #[.int .i64 (tun 3 a),.int .i64 0])/\w'=w:=by
 have e:tun 3 a=(a+128) % 256 - 128:=rfl;rw[e];clear e;go_enter func130,ntmps130;go_wp2_with fail
 go_ret2
 exact⟨ret2 (by first | rfl | (rw[wrap_i8,w64 (by omega)]) | (rw[wrap_i16,w64 (by omega)]) | (rw[wrap_u16,w64 (by omega)]) | (rw[wrap_i32,w64 (by omega)]) | (unfold wrap32 wrap64;omega) | (unfold wrap32;omega) | (simp only [wrap_i8, wrap_i16, wrap_u16, wrap_i32];first | rfl | (rw[w64 (by omega)]) | (unfold wrap64;omega))) rfl,rfl⟩
theorem to_4 (a:Int) (w:World) :
  Calls prog 130 #[.int .i64 a,.int .i64 8,.bool false] w fun e w'=>e=.returned (.tuple #[.int .i64 (tun 4 a),.int .i64 0])/\w'=w:=by
 have e:tun 4 a=a % 256:=rfl;rw[e];clear e;go_enter func130,ntmps130;go_wp2_with fail
 go_ret2
 exact⟨ret2 (by first | rfl | (rw[wrap_i8,w64 (by omega)]) | (rw[wrap_i16,w64 (by omega)]) | (rw[wrap_u16,w64 (by omega)]) | (rw[wrap_i32,w64 (by omega)]) | (unfold wrap32 wrap64;omega) | (unfold wrap32;omega) | (simp only [wrap_i8, wrap_i16, wrap_u16, wrap_i32];first | rfl | (rw[w64 (by omega)]) | (unfold wrap64;omega))) rfl,rfl⟩
theorem to_5 (a:Int) (w:World) :
  Calls prog 130 #[.int .i64 a,.int .i64 16,.bool true] w fun e w'=>e=.returned (.tuple #[.int .i64 (tun 5 a),.int .i64 0])/\w'=w:=by
 have e:tun 5 a=(a+32768) % 65536 - 32768:=rfl;rw[e];clear e;go_enter func130,ntmps130;go_wp2_with fail
 go_ret2
 exact⟨ret2 (by first | rfl | (rw[wrap_i8,w64 (by omega)]) | (rw[wrap_i16,w64 (by omega)]) | (rw[wrap_u16,w64 (by omega)]) | (rw[wrap_i32,w64 (by omega)]) | (unfold wrap32 wrap64;omega) | (unfold wrap32;omega) | (simp only [wrap_i8, wrap_i16, wrap_u16, wrap_i32];first | rfl | (rw[w64 (by omega)]) | (unfold wrap64;omega))) rfl,rfl⟩
theorem to_6 (a:Int) (w:World) :
  Calls prog 130 #[.int .i64 a,.int .i64 16,.bool false] w fun e w'=>e=.returned (.tuple #[.int .i64 (tun 6 a),.int .i64 0])/\w'=w:=by
 have e:tun 6 a=a % 65536:=rfl;rw[e];clear e;go_enter func130,ntmps130;go_wp2_with fail
 go_ret2
 exact⟨ret2 (by first | rfl | (rw[wrap_i8,w64 (by omega)]) | (rw[wrap_i16,w64 (by omega)]) | (rw[wrap_u16,w64 (by omega)]) | (rw[wrap_i32,w64 (by omega)]) | (unfold wrap32 wrap64;omega) | (unfold wrap32;omega) | (simp only [wrap_i8, wrap_i16, wrap_u16, wrap_i32];first | rfl | (rw[w64 (by omega)]) | (unfold wrap64;omega))) rfl,rfl⟩
theorem to_7 (a:Int) (w:World) :
  Calls prog 130 #[.int .i64 a,.int .i64 32,.bool true] w fun e w'=>e=.returned (.tuple #[.int .i64 (tun 7 a),.int .i64 0])/\w'=w:=by
 have e:tun 7 a=(a+2147483648) % 4294967296 - 2147483648:=rfl;rw[e];clear e;go_enter func130,ntmps130;go_wp2_with fail
 go_ret2
 exact⟨ret2 (by first | rfl | (rw[wrap_i8,w64 (by omega)]) | (rw[wrap_i16,w64 (by omega)]) | (rw[wrap_u16,w64 (by omega)]) | (rw[wrap_i32,w64 (by omega)]) | (unfold wrap32 wrap64;omega) | (unfold wrap32;omega) | (simp only [wrap_i8, wrap_i16, wrap_u16, wrap_i32];first | rfl | (rw[w64 (by omega)]) | (unfold wrap64;omega))) rfl,rfl⟩
theorem to_8 (a:Int) (w:World) :
  Calls prog 130 #[.int .i64 a,.int .i64 32,.bool false] w fun e w'=>e=.returned (.tuple #[.int .i64 (tun 8 a),.int .i64 0])/\w'=w:=by
 have e:tun 8 a=a % 4294967296:=rfl;rw[e];clear e;go_enter func130,ntmps130;go_wp2_with fail
 go_ret2
 exact⟨ret2 (by first | rfl | (rw[wrap_i8,w64 (by omega)]) | (rw[wrap_i16,w64 (by omega)]) | (rw[wrap_u16,w64 (by omega)]) | (rw[wrap_i32,w64 (by omega)]) | (unfold wrap32 wrap64;omega) | (unfold wrap32;omega) | (simp only [wrap_i8, wrap_i16, wrap_u16, wrap_i32];first | rfl | (rw[w64 (by omega)]) | (unfold wrap64;omega))) rfl,rfl⟩
theorem length_c (k:Int) (b:Bool) (i:Int) (s:ByteArray) (an:Option Addr) (ln cn:Nat) (al:Option Addr) (ll cl:Nat) (w:World) :
  Calls prog 128 #[vl k b i s (.slice an ln cn) (.slice al ll cl)] w fun e w'=>An w w' e (Value.int .i64) (if k=4 then .ok (s.size:Int) else if k=5\/k=6 then .ok (ll:Int) else .error 1101):=by
 obtain⟨W0,hW0⟩ : ∃ W0,w.alloc (.cells #[.int .i64 k,.bool b,.int .i64 i,.string s,.slice an ln cn,.slice al ll cl] 26)=W0:=⟨_,rfl⟩;have hb0:=alB hW0;have hp:=alG hW0;obtain⟨p0,p1,p2,p3,p4,p5⟩:=six_box hp;have HB:=hid hb0;have cT:=must_t W0;have cF:=must_f W0;clear hp hb0;by_cases h4:k=4
 ·rw[if_pos h4]
  subst h4;go_enter func128,ntmps128;go_wp2_with fail
  go_ret
  exact⟨rfl,HB.out⟩
 rw[if_neg h4];have e4:(k == 4)=false:=by simp [h4]
 by_cases h5:k=5
 ·rw[if_pos (.inl h5)]
  subst h5;clear h4 e4;go_enter func128,ntmps128;go_wp2_with fail
  try rw[hW0]
  refine cT.mono ?_;rintro e W1 ⟨⟨v,rfl⟩,rfl⟩;go_wp2_with fail
  go_ret
  exact⟨rfl,HB.out⟩
 have e5:(k == 5)=false:=by simp [h5]
 by_cases h6:k=6
 ·rw[if_pos (.inr h6)]
  subst h6;clear h4 e4 h5 e5;go_enter func128,ntmps128;go_wp2_with fail
  try rw[hW0]
  refine cT.mono ?_;rintro e W1 ⟨⟨v,rfl⟩,rfl⟩;go_wp2_with fail
  go_ret
  exact⟨rfl,HB.out⟩
 have e6:(k == 6)=false:=by simp [h6]
 rw[if_neg (fun h=>h.elim h5 h6)];clear h4 h5 h6;go_enter func128,ntmps128;go_wp2_with fail
 try rw[hW0]
 refine cF.mono ?_;rintro e W1 ⟨rfl,rfl⟩;exact⟨rfl,rfl,HB.out⟩
end Go.Proofs.YtdolgmmldncfkaaGreatDoor.VTo

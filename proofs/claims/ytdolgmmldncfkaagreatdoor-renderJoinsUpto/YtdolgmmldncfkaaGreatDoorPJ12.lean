import Derived.Test.YtdolgmmldncfkaaGreatDoorPJ06
import Derived.Test.YtdolgmmldncfkaaGreatDoorPJ11
open Go.Proofs.Tryz
set_option linter.unusedVariables false
set_option maxRecDepth 20000
set_option maxHeartbeats 6400000
namespace Go.Proofs.YtdolgmmldncfkaaGreatDoor.VPo
open Go.RowKit Base VPure VSm VEx VOr
theorem pair_Less (k1:Int) (b1:Bool) (i1:Int) (s1:ByteArray) (n1 l1:Value) (k2:Int) (b2:Bool) (i2:Int) (s2:ByteArray) (n2 l2:Value) (w:World) :
  Calls prog 68 #[.int .i64 23,vl k1 b1 i1 s1 n1 l1,vl k2 b2 i2 s2 n2 l2] w fun e w'=>An w w' e (fun c:Bool=>v0 2 c 0 ⟨#[]⟩) (bnd (ord k1 i1 s1 k2 i2 s2) fun c=>.ok (decide (c<0))):=by
 obtain⟨W0,hW0,hs0,hb0,hp,hq,hr⟩:=two3 w #[.int .i64 k1,.bool b1,.int .i64 i1,.string s1,n1,l1] #[.int .i64 k2,.bool b2,.int .i64 i2,.string s2,n2,l2];have HR:=hid hr;have HB:=hid hb0;obtain⟨p0,p1,p2,p3,p4,p5⟩:=six_box hp;obtain⟨q0,q1,q2,q3,q4,q5⟩:=six_box hq;have cI:=order_c k1 b1 i1 s1 n1 l1 k2 b2 i2 s2 n2 l2 W0;obtain⟨U,hU⟩ : ∃ U,ord k1 i1 s1 k2 i2 s2=U:=⟨_,rfl⟩;rw[hU] at cI ⊢;clear hp hq hb0 hr hU;go_enter func68,ntmps68;go_upto_if 39 with fail
 refine wp_cond_true (by rfl) ?_;refine wp_exit ?_;repeat (first | (with_reducible refine ex_then ?_) | (with_reducible refine ex_skip (by decide) ?_))
 refine ex_hit ?_;refine ex_norm ?_;apply_assumption
 refine wp_mono (Q:=Out ?outB) ?outM (out_mono ?outR ?outP)
 case outR=>intro a w h;(repeat (first | (with_reducible refine rt_then ?_) | (with_reducible refine rt_blk ?_)));exact h
 case outP=>intro c a w h;(repeat (first | (with_reducible refine pn_then ?_) | (with_reducible refine pn_blk ?_)));exact h
 try simp only [hW0]
 go_wp2_with fail
 try rw[hW0]
 refine cI.mono ?_;intro e W1 hA;clear cI;cases U with
 | error c=>
  obtain⟨rfl,hb1⟩:=hA;exact⟨rfl,rfl,HB.out.trans (hb1.mono HB.out.size)⟩
 | ok c=>
  obtain⟨rfl,hb1⟩:=hA;have HR1:=hid ((hb1.block (w.heap.size+2) (by omega)).trans HR.out);have hs1:=hb1.size;have HB1:=hid (HB.out.trans (hb1.mono HB.out.size));clear hb1 HR HB p0 p1 p2 p3 p4 p5 q0 q1 q2 q3 q4 q5;obtain⟨B,hB⟩ : ∃ B,decide (c<0)=B:=⟨_,rfl⟩;have cT:=truth_c B;go_wp2_with fail
  refine (cT _).mono ?_;rintro e W2 ⟨rfl,hb2⟩;clear cT;have hr:=(hb2.block (w.heap.size+2) (by omega)).trans HR1.out;have HB2:=hid (HB1.out.trans (hb2.mono HB1.out.size));clear hb2 HB1 HR1;obtain⟨r0,r1,r2,r3,r4,r5⟩:=six_box hr;obtain⟨rf0,rf1,rf2,rf3,rf4,rf5⟩:=Base.frz6 hr;go_wp2_with fail
  obtain⟨W9,hW9⟩:=stc6 W2 (w.heap.size+2) (.int .i64 2) (.bool B) (.int .i64 0) (.string ⟨#[]⟩) (.slice none 0 0) (.slice none 0 0);rw[hW9];obtain⟨q1,q2,q3,q4⟩:=set6 _ _ _ _ _ _ hr hW9;first | refine out_ret (results_cell_row rfl _ W9 (w.heap.size+2) 26 _ (0,0) _ rfl q1 underlying26 rfl (by kernel_rfl)) rfl ?_ | refine bodyPost_ret (results_cell_row rfl _ W9 (w.heap.size+2) 26 _ (0,0) _ rfl q1 underlying26 rfl (by kernel_rfl)) rfl ?_
  try subst hB
  exact⟨rfl,q4 _ _ (by omega) HB2.out⟩
theorem pair_Most (k1:Int) (b1:Bool) (i1:Int) (s1:ByteArray) (n1 l1:Value) (k2:Int) (b2:Bool) (i2:Int) (s2:ByteArray) (n2 l2:Value) (w:World) :
  Calls prog 68 #[.int .i64 24,vl k1 b1 i1 s1 n1 l1,vl k2 b2 i2 s2 n2 l2] w fun e w'=>An w w' e (fun c:Bool=>v0 2 c 0 ⟨#[]⟩) (bnd (ord k1 i1 s1 k2 i2 s2) fun c=>.ok (decide (c<=0))):=by
 obtain⟨W0,hW0,hs0,hb0,hp,hq,hr⟩:=two3 w #[.int .i64 k1,.bool b1,.int .i64 i1,.string s1,n1,l1] #[.int .i64 k2,.bool b2,.int .i64 i2,.string s2,n2,l2];have HR:=hid hr;have HB:=hid hb0;obtain⟨p0,p1,p2,p3,p4,p5⟩:=six_box hp;obtain⟨q0,q1,q2,q3,q4,q5⟩:=six_box hq;have cI:=order_c k1 b1 i1 s1 n1 l1 k2 b2 i2 s2 n2 l2 W0;obtain⟨U,hU⟩ : ∃ U,ord k1 i1 s1 k2 i2 s2=U:=⟨_,rfl⟩;rw[hU] at cI ⊢;clear hp hq hb0 hr hU;go_enter func68,ntmps68;go_upto_if 43 with fail
 refine wp_cond_true (by rfl) ?_;refine wp_exit ?_;repeat (first | (with_reducible refine ex_then ?_) | (with_reducible refine ex_skip (by decide) ?_))
 refine ex_hit ?_;refine ex_norm ?_;apply_assumption
 refine wp_mono (Q:=Out ?outB) ?outM (out_mono ?outR ?outP)
 case outR=>intro a w h;(repeat (first | (with_reducible refine rt_then ?_) | (with_reducible refine rt_blk ?_)));exact h
 case outP=>intro c a w h;(repeat (first | (with_reducible refine pn_then ?_) | (with_reducible refine pn_blk ?_)));exact h
 try simp only [hW0]
 go_wp2_with fail
 try rw[hW0]
 refine cI.mono ?_;intro e W1 hA;clear cI;cases U with
 | error c=>
  obtain⟨rfl,hb1⟩:=hA;exact⟨rfl,rfl,HB.out.trans (hb1.mono HB.out.size)⟩
 | ok c=>
  obtain⟨rfl,hb1⟩:=hA;have HR1:=hid ((hb1.block (w.heap.size+2) (by omega)).trans HR.out);have hs1:=hb1.size;have HB1:=hid (HB.out.trans (hb1.mono HB.out.size));clear hb1 HR HB p0 p1 p2 p3 p4 p5 q0 q1 q2 q3 q4 q5;obtain⟨B,hB⟩ : ∃ B,decide (c<=0)=B:=⟨_,rfl⟩;have cT:=truth_c B;go_wp2_with fail
  refine (cT _).mono ?_;rintro e W2 ⟨rfl,hb2⟩;clear cT;have hr:=(hb2.block (w.heap.size+2) (by omega)).trans HR1.out;have HB2:=hid (HB1.out.trans (hb2.mono HB1.out.size));clear hb2 HB1 HR1;obtain⟨r0,r1,r2,r3,r4,r5⟩:=six_box hr;obtain⟨rf0,rf1,rf2,rf3,rf4,rf5⟩:=Base.frz6 hr;go_wp2_with fail
  obtain⟨W9,hW9⟩:=stc6 W2 (w.heap.size+2) (.int .i64 2) (.bool B) (.int .i64 0) (.string ⟨#[]⟩) (.slice none 0 0) (.slice none 0 0);rw[hW9];obtain⟨q1,q2,q3,q4⟩:=set6 _ _ _ _ _ _ hr hW9;first | refine out_ret (results_cell_row rfl _ W9 (w.heap.size+2) 26 _ (0,0) _ rfl q1 underlying26 rfl (by kernel_rfl)) rfl ?_ | refine bodyPost_ret (results_cell_row rfl _ W9 (w.heap.size+2) 26 _ (0,0) _ rfl q1 underlying26 rfl (by kernel_rfl)) rfl ?_
  try subst hB
  exact⟨rfl,q4 _ _ (by omega) HB2.out⟩
end Go.Proofs.YtdolgmmldncfkaaGreatDoor.VPo
namespace Go.Proofs.YtdolgmmldncfkaaGreatDoor.VPq
open Go.RowKit Base VPure VSm VEx VOr
theorem pair_More (k1:Int) (b1:Bool) (i1:Int) (s1:ByteArray) (an1:Option Addr) (ln1 cn1:Nat) (al1:Option Addr) (ll1 cl1:Nat) (k2:Int) (b2:Bool) (i2:Int) (s2:ByteArray) (an2:Option Addr) (ln2 cn2:Nat) (al2:Option Addr) (ll2 cl2:Nat) (w:World) :
  Calls prog 68 #[.int .i64 25,vl k1 b1 i1 s1 (.slice an1 ln1 cn1) (.slice al1 ll1 cl1),vl k2 b2 i2 s2 (.slice an2 ln2 cn2) (.slice al2 ll2 cl2)] w fun e w'=>An w w' e (fun c:Bool=>v0 2 c 0 ⟨#[]⟩) (bnd (ord k2 i2 s2 k1 i1 s1) fun c=>.ok (decide (c<0))):=by
 obtain⟨W0,hW0,hs0,hb0,hp,hq,hr⟩:=two3 w #[.int .i64 k1,.bool b1,.int .i64 i1,.string s1,(.slice an1 ln1 cn1),(.slice al1 ll1 cl1)] #[.int .i64 k2,.bool b2,.int .i64 i2,.string s2,(.slice an2 ln2 cn2),(.slice al2 ll2 cl2)];have HR:=hid hr;have HB:=hid hb0;obtain⟨p0,p1,p2,p3,p4,p5⟩:=six_box hp;obtain⟨q0,q1,q2,q3,q4,q5⟩:=six_box hq;obtain⟨pf0,pf1,pf2,pf3,pf4,pf5⟩:=Base.frz6 hp;obtain⟨V1,hV1⟩:=stc6 W0 w.heap.size (.int .i64 k2) (.bool b2) (.int .i64 i2) (.string s2) (.slice an2 ln2 cn2) (.slice al2 ll2 cl2);obtain⟨a1,a2,a3,a4⟩:=set6 _ _ _ _ _ _ hp hV1;have hq1:=(a2 (w.heap.size+1) (by omega)).trans hq;obtain⟨qf0,qf1,qf2,qf3,qf4,qf5⟩:=Base.frz6 hq1;obtain⟨y0,y1,y2,y3,y4,y5⟩:=six_box hq1;obtain⟨V2,hV2⟩:=stc6 V1 (w.heap.size+1) (.int .i64 k1) (.bool b1) (.int .i64 i1) (.string s1) (.slice an1 ln1 cn1) (.slice al1 ll1 cl1);obtain⟨c1,c2,c3,c4⟩:=set6 _ _ _ _ _ _ hq1 hV2;have hp2:=(c2 w.heap.size (by omega)).trans a1
 obtain⟨x0,x1,x2,x3,x4,x5⟩:=six_box hp2;obtain⟨z0,z1,z2,z3,z4,z5⟩:=six_box c1;have HR2:=hid ((c2 _ (by omega)).trans ((a2 _ (by omega)).trans hr));have hbv:Below w.heap.size w V2:=c4 _ _ (by omega) (a4 _ _ (Nat.le_refl _) hb0);have HBV:=hid hbv;have hsv:V2.heap.size=w.heap.size+3:=by rw[<- hV2,<- hV1];simp [hs0]
 clear a1 a2 a3 a4 c1 c2 c3 c4 hq1 hp2 hbv HR HB;have HR:=HR2;have HB:=HBV;clear HR2 HBV;have cI:=order_c k2 b2 i2 s2 (.slice an2 ln2 cn2) (.slice al2 ll2 cl2) k1 b1 i1 s1 (.slice an1 ln1 cn1) (.slice al1 ll1 cl1) V2;obtain⟨U,hU⟩ : ∃ U,ord k2 i2 s2 k1 i1 s1=U:=⟨_,rfl⟩;rw[hU] at cI ⊢;clear hp hq hb0 hr hU;go_enter func68,ntmps68;go_upto_if 37 with fail
 refine wp_cond_true (by rfl) ?_;refine wp_exit ?_;repeat (first | (with_reducible refine ex_then ?_) | (with_reducible refine ex_skip (by decide) ?_))
 refine ex_hit ?_;refine ex_norm ?_;apply_assumption
 try simp only [hW0]
 go_upto_region 36 with fail
 go_wp2_with fail
 try rw[hW0]
 try rw[hV1]
 try rw[hV2]
 refine cI.mono ?_;intro e W1 hA;clear cI;cases U with
 | error c=>
  obtain⟨rfl,hb1⟩:=hA;exact⟨rfl,rfl,HB.out.trans (hb1.mono HB.out.size)⟩
 | ok c=>
  obtain⟨rfl,hb1⟩:=hA;have HR1:=hid ((hb1.block (w.heap.size+2) (by omega)).trans HR.out);have hs1:=hb1.size;have HB1:=hid (HB.out.trans (hb1.mono HB.out.size));clear hb1 HR HB p0 p1 p2 p3 p4 p5 q0 q1 q2 q3 q4 q5 x0 x1 x2 x3 x4 x5 y0 y1 y2 y3 y4 y5 z0 z1 z2 z3 z4 z5 pf0 pf1 pf2 pf3 pf4 pf5 qf0 qf1 qf2 qf3 qf4 qf5;obtain⟨B,hB⟩ : ∃ B,decide (c<0)=B:=⟨_,rfl⟩;have cT:=truth_c B;go_wp2_with fail
  refine (cT _).mono ?_;rintro e W2 ⟨rfl,hb2⟩;clear cT;have hr:=(hb2.block (w.heap.size+2) (by omega)).trans HR1.out;have HB2:=hid (HB1.out.trans (hb2.mono HB1.out.size));clear hb2 HB1 HR1;obtain⟨r0,r1,r2,r3,r4,r5⟩:=six_box hr;obtain⟨rf0,rf1,rf2,rf3,rf4,rf5⟩:=Base.frz6 hr;go_wp2_with fail
  obtain⟨W9,hW9⟩:=stc6 W2 (w.heap.size+2) (.int .i64 2) (.bool B) (.int .i64 0) (.string ⟨#[]⟩) (.slice none 0 0) (.slice none 0 0);rw[hW9];obtain⟨q1,q2,q3,q4⟩:=set6 _ _ _ _ _ _ hr hW9;first | refine out_ret (results_cell_row rfl _ W9 (w.heap.size+2) 26 _ (0,0) _ rfl q1 underlying26 rfl (by kernel_rfl)) rfl ?_ | refine bodyPost_ret (results_cell_row rfl _ W9 (w.heap.size+2) 26 _ (0,0) _ rfl q1 underlying26 rfl (by kernel_rfl)) rfl ?_
  try subst hB
  exact⟨rfl,q4 _ _ (by omega) HB2.out⟩
theorem pair_Least (k1:Int) (b1:Bool) (i1:Int) (s1:ByteArray) (an1:Option Addr) (ln1 cn1:Nat) (al1:Option Addr) (ll1 cl1:Nat) (k2:Int) (b2:Bool) (i2:Int) (s2:ByteArray) (an2:Option Addr) (ln2 cn2:Nat) (al2:Option Addr) (ll2 cl2:Nat) (w:World) :
  Calls prog 68 #[.int .i64 26,vl k1 b1 i1 s1 (.slice an1 ln1 cn1) (.slice al1 ll1 cl1),vl k2 b2 i2 s2 (.slice an2 ln2 cn2) (.slice al2 ll2 cl2)] w fun e w'=>An w w' e (fun c:Bool=>v0 2 c 0 ⟨#[]⟩) (bnd (ord k2 i2 s2 k1 i1 s1) fun c=>.ok (decide (c<=0))):=by
 obtain⟨W0,hW0,hs0,hb0,hp,hq,hr⟩:=two3 w #[.int .i64 k1,.bool b1,.int .i64 i1,.string s1,(.slice an1 ln1 cn1),(.slice al1 ll1 cl1)] #[.int .i64 k2,.bool b2,.int .i64 i2,.string s2,(.slice an2 ln2 cn2),(.slice al2 ll2 cl2)];have HR:=hid hr;have HB:=hid hb0;obtain⟨p0,p1,p2,p3,p4,p5⟩:=six_box hp;obtain⟨q0,q1,q2,q3,q4,q5⟩:=six_box hq;obtain⟨pf0,pf1,pf2,pf3,pf4,pf5⟩:=Base.frz6 hp;obtain⟨V1,hV1⟩:=stc6 W0 w.heap.size (.int .i64 k2) (.bool b2) (.int .i64 i2) (.string s2) (.slice an2 ln2 cn2) (.slice al2 ll2 cl2);obtain⟨a1,a2,a3,a4⟩:=set6 _ _ _ _ _ _ hp hV1;have hq1:=(a2 (w.heap.size+1) (by omega)).trans hq;obtain⟨qf0,qf1,qf2,qf3,qf4,qf5⟩:=Base.frz6 hq1;obtain⟨y0,y1,y2,y3,y4,y5⟩:=six_box hq1;obtain⟨V2,hV2⟩:=stc6 V1 (w.heap.size+1) (.int .i64 k1) (.bool b1) (.int .i64 i1) (.string s1) (.slice an1 ln1 cn1) (.slice al1 ll1 cl1);obtain⟨c1,c2,c3,c4⟩:=set6 _ _ _ _ _ _ hq1 hV2;have hp2:=(c2 w.heap.size (by omega)).trans a1
 obtain⟨x0,x1,x2,x3,x4,x5⟩:=six_box hp2;obtain⟨z0,z1,z2,z3,z4,z5⟩:=six_box c1;have HR2:=hid ((c2 _ (by omega)).trans ((a2 _ (by omega)).trans hr));have hbv:Below w.heap.size w V2:=c4 _ _ (by omega) (a4 _ _ (Nat.le_refl _) hb0);have HBV:=hid hbv;have hsv:V2.heap.size=w.heap.size+3:=by rw[<- hV2,<- hV1];simp [hs0]
 clear a1 a2 a3 a4 c1 c2 c3 c4 hq1 hp2 hbv HR HB;have HR:=HR2;have HB:=HBV;clear HR2 HBV;have cI:=order_c k2 b2 i2 s2 (.slice an2 ln2 cn2) (.slice al2 ll2 cl2) k1 b1 i1 s1 (.slice an1 ln1 cn1) (.slice al1 ll1 cl1) V2;obtain⟨U,hU⟩ : ∃ U,ord k2 i2 s2 k1 i1 s1=U:=⟨_,rfl⟩;rw[hU] at cI ⊢;clear hp hq hb0 hr hU;go_enter func68,ntmps68;go_upto_if 41 with fail
 refine wp_cond_true (by rfl) ?_;refine wp_exit ?_;repeat (first | (with_reducible refine ex_then ?_) | (with_reducible refine ex_skip (by decide) ?_))
 refine ex_hit ?_;refine ex_norm ?_;apply_assumption
 try simp only [hW0]
 go_upto_region 38 with fail
 go_wp2_with fail
 try rw[hW0]
 try rw[hV1]
 try rw[hV2]
 refine cI.mono ?_;intro e W1 hA;clear cI;cases U with
 | error c=>
  obtain⟨rfl,hb1⟩:=hA;exact⟨rfl,rfl,HB.out.trans (hb1.mono HB.out.size)⟩
 | ok c=>
  obtain⟨rfl,hb1⟩:=hA;have HR1:=hid ((hb1.block (w.heap.size+2) (by omega)).trans HR.out);have hs1:=hb1.size;have HB1:=hid (HB.out.trans (hb1.mono HB.out.size));clear hb1 HR HB p0 p1 p2 p3 p4 p5 q0 q1 q2 q3 q4 q5 x0 x1 x2 x3 x4 x5 y0 y1 y2 y3 y4 y5 z0 z1 z2 z3 z4 z5 pf0 pf1 pf2 pf3 pf4 pf5 qf0 qf1 qf2 qf3 qf4 qf5;obtain⟨B,hB⟩ : ∃ B,decide (c<=0)=B:=⟨_,rfl⟩;have cT:=truth_c B;go_wp2_with fail
  refine (cT _).mono ?_;rintro e W2 ⟨rfl,hb2⟩;clear cT;have hr:=(hb2.block (w.heap.size+2) (by omega)).trans HR1.out;have HB2:=hid (HB1.out.trans (hb2.mono HB1.out.size));clear hb2 HB1 HR1;obtain⟨r0,r1,r2,r3,r4,r5⟩:=six_box hr;obtain⟨rf0,rf1,rf2,rf3,rf4,rf5⟩:=Base.frz6 hr;go_wp2_with fail
  obtain⟨W9,hW9⟩:=stc6 W2 (w.heap.size+2) (.int .i64 2) (.bool B) (.int .i64 0) (.string ⟨#[]⟩) (.slice none 0 0) (.slice none 0 0);rw[hW9];obtain⟨q1,q2,q3,q4⟩:=set6 _ _ _ _ _ _ hr hW9;first | refine out_ret (results_cell_row rfl _ W9 (w.heap.size+2) 26 _ (0,0) _ rfl q1 underlying26 rfl (by kernel_rfl)) rfl ?_ | refine bodyPost_ret (results_cell_row rfl _ W9 (w.heap.size+2) 26 _ (0,0) _ rfl q1 underlying26 rfl (by kernel_rfl)) rfl ?_
  try subst hB
  exact⟨rfl,q4 _ _ (by omega) HB2.out⟩
end Go.Proofs.YtdolgmmldncfkaaGreatDoor.VPq
namespace Go.Proofs.YtdolgmmldncfkaaGreatDoor.VPs
open Go.RowKit Base VSm VEx
theorem pair_Same (k1:Int) (b1:Bool) (i1:Int) (s1:ByteArray) (n1 l1:Value) (k2:Int) (b2:Bool) (i2:Int) (s2:ByteArray) (n2 l2:Value) (w:World) (S:Bool) (cS:∀ W:World,Below w.heap.size w W->Calls prog 100 #[vl k1 b1 i1 s1 n1 l1,vl k2 b2 i2 s2 n2 l2] W fun e w'=>e=.returned (.bool S)/\Below W.heap.size W w') :
  Calls prog 68 #[.int .i64 27,vl k1 b1 i1 s1 n1 l1,vl k2 b2 i2 s2 n2 l2] w fun e w'=>e=.returned (v0 2 (S) 0 ⟨#[]⟩)/\Below w.heap.size w w':=by
 obtain⟨W0,hW0,hs0,hb0,hp,hq,hr⟩:=two3 w #[.int .i64 k1,.bool b1,.int .i64 i1,.string s1,n1,l1] #[.int .i64 k2,.bool b2,.int .i64 i2,.string s2,n2,l2];have HR:=hid hr;have HB:=hid hb0;obtain⟨p0,p1,p2,p3,p4,p5⟩:=six_box hp;obtain⟨q0,q1,q2,q3,q4,q5⟩:=six_box hq;have cI:=cS W0 hb0;clear hp hq hb0 hr cS;have cT:=truth_c;cases S with
 | false=>
  go_enter func68,ntmps68;go_upto_if 43 with fail
  refine wp_cond_false (by rfl) ?_;refine wp_skip ?_;refine ex_norm ?_;apply_assumption
  refine wp_exit ?_;repeat (first | (with_reducible refine ex_then ?_) | (with_reducible refine ex_skip (by decide) ?_))
  refine ex_hit ?_;try (refine ex_norm ?_)
  apply_assumption
  try simp only [hW0]
  go_wp2_with fail
  try rw[hW0]
  refine cI.mono ?_;rintro e W1 ⟨rfl,hb1⟩;clear cI;have HR1:=hid ((hb1.block (w.heap.size+2) (by omega)).trans HR.out);have hs1:=hb1.size;have HB1:=hid (HB.out.trans (hb1.mono HB.out.size));clear hb1 HR HB p0 p1 p2 p3 p4 p5 q0 q1 q2 q3 q4 q5;go_wp2_with fail
  refine (cT _ _).mono ?_;rintro e W2 ⟨rfl,hb2⟩;clear cT;have hr:=(hb2.block (w.heap.size+2) (by omega)).trans HR1.out;have HB2:=hid (HB1.out.trans (hb2.mono HB1.out.size));clear hb2 HB1 HR1;obtain⟨r0,r1,r2,r3,r4,r5⟩:=six_box hr;obtain⟨rf0,rf1,rf2,rf3,rf4,rf5⟩:=Base.frz6 hr;go_wp2_with fail
  obtain⟨W9,hW9⟩:=stc6 W2 (w.heap.size+2) (.int .i64 2) (.bool false) (.int .i64 0) (.string ⟨#[]⟩) (.slice none 0 0) (.slice none 0 0);rw[hW9];obtain⟨q1,q2,q3,q4⟩:=set6 _ _ _ _ _ _ hr hW9;refine bodyPost_ret (results_cell_row rfl _ W9 (w.heap.size+2) 26 _ (0,0) _ rfl q1 underlying26 rfl (by kernel_rfl)) rfl ?_;try subst hB
  exact⟨rfl,q4 _ _ (by omega) HB2.out⟩
 | true=>
  go_enter func68,ntmps68;go_upto_if 43 with fail
  refine wp_cond_false (by rfl) ?_;refine wp_skip ?_;refine ex_norm ?_;apply_assumption
  refine wp_exit ?_;repeat (first | (with_reducible refine ex_then ?_) | (with_reducible refine ex_skip (by decide) ?_))
  refine ex_hit ?_;try (refine ex_norm ?_)
  apply_assumption
  try simp only [hW0]
  go_wp2_with fail
  try rw[hW0]
  refine cI.mono ?_;rintro e W1 ⟨rfl,hb1⟩;clear cI;have HR1:=hid ((hb1.block (w.heap.size+2) (by omega)).trans HR.out);have hs1:=hb1.size;have HB1:=hid (HB.out.trans (hb1.mono HB.out.size));clear hb1 HR HB p0 p1 p2 p3 p4 p5 q0 q1 q2 q3 q4 q5;go_wp2_with fail
  refine (cT _ _).mono ?_;rintro e W2 ⟨rfl,hb2⟩;clear cT;have hr:=(hb2.block (w.heap.size+2) (by omega)).trans HR1.out;have HB2:=hid (HB1.out.trans (hb2.mono HB1.out.size));clear hb2 HB1 HR1;obtain⟨r0,r1,r2,r3,r4,r5⟩:=six_box hr;obtain⟨rf0,rf1,rf2,rf3,rf4,rf5⟩:=Base.frz6 hr;go_wp2_with fail
  obtain⟨W9,hW9⟩:=stc6 W2 (w.heap.size+2) (.int .i64 2) (.bool true) (.int .i64 0) (.string ⟨#[]⟩) (.slice none 0 0) (.slice none 0 0);rw[hW9];obtain⟨q1,q2,q3,q4⟩:=set6 _ _ _ _ _ _ hr hW9;refine bodyPost_ret (results_cell_row rfl _ W9 (w.heap.size+2) 26 _ (0,0) _ rfl q1 underlying26 rfl (by kernel_rfl)) rfl ?_;try subst hB
  exact⟨rfl,q4 _ _ (by omega) HB2.out⟩
theorem pair_Other (k1:Int) (b1:Bool) (i1:Int) (s1:ByteArray) (n1 l1:Value) (k2:Int) (b2:Bool) (i2:Int) (s2:ByteArray) (n2 l2:Value) (w:World) (S:Bool) (cS:∀ W:World,Below w.heap.size w W->Calls prog 100 #[vl k1 b1 i1 s1 n1 l1,vl k2 b2 i2 s2 n2 l2] W fun e w'=>e=.returned (.bool S)/\Below W.heap.size W w') :
  Calls prog 68 #[.int .i64 28,vl k1 b1 i1 s1 n1 l1,vl k2 b2 i2 s2 n2 l2] w fun e w'=>e=.returned (v0 2 (!S) 0 ⟨#[]⟩)/\Below w.heap.size w w':=by
 obtain⟨W0,hW0,hs0,hb0,hp,hq,hr⟩:=two3 w #[.int .i64 k1,.bool b1,.int .i64 i1,.string s1,n1,l1] #[.int .i64 k2,.bool b2,.int .i64 i2,.string s2,n2,l2];have HR:=hid hr;have HB:=hid hb0;obtain⟨p0,p1,p2,p3,p4,p5⟩:=six_box hp;obtain⟨q0,q1,q2,q3,q4,q5⟩:=six_box hq;have cI:=cS W0 hb0;clear hp hq hb0 hr cS;have cT:=truth_c;cases S with
 | false=>
  go_enter func68,ntmps68;go_upto_if 43 with fail
  refine wp_cond_false (by rfl) ?_;refine wp_skip ?_;refine ex_norm ?_;apply_assumption
  refine wp_exit ?_;repeat (first | (with_reducible refine ex_then ?_) | (with_reducible refine ex_skip (by decide) ?_))
  refine ex_hit ?_;try (refine ex_norm ?_)
  apply_assumption
  try simp only [hW0]
  go_wp2_with fail
  try rw[hW0]
  refine cI.mono ?_;rintro e W1 ⟨rfl,hb1⟩;clear cI;have HR1:=hid ((hb1.block (w.heap.size+2) (by omega)).trans HR.out);have hs1:=hb1.size;have HB1:=hid (HB.out.trans (hb1.mono HB.out.size));clear hb1 HR HB p0 p1 p2 p3 p4 p5 q0 q1 q2 q3 q4 q5;go_wp2_with fail
  refine (cT _ _).mono ?_;rintro e W2 ⟨rfl,hb2⟩;clear cT;have hr:=(hb2.block (w.heap.size+2) (by omega)).trans HR1.out;have HB2:=hid (HB1.out.trans (hb2.mono HB1.out.size));clear hb2 HB1 HR1;obtain⟨r0,r1,r2,r3,r4,r5⟩:=six_box hr;obtain⟨rf0,rf1,rf2,rf3,rf4,rf5⟩:=Base.frz6 hr;go_wp2_with fail
  obtain⟨W9,hW9⟩:=stc6 W2 (w.heap.size+2) (.int .i64 2) (.bool true) (.int .i64 0) (.string ⟨#[]⟩) (.slice none 0 0) (.slice none 0 0);rw[hW9];obtain⟨q1,q2,q3,q4⟩:=set6 _ _ _ _ _ _ hr hW9;refine bodyPost_ret (results_cell_row rfl _ W9 (w.heap.size+2) 26 _ (0,0) _ rfl q1 underlying26 rfl (by kernel_rfl)) rfl ?_;try subst hB
  exact⟨rfl,q4 _ _ (by omega) HB2.out⟩
 | true=>
  go_enter func68,ntmps68;go_upto_if 43 with fail
  refine wp_cond_false (by rfl) ?_;refine wp_skip ?_;refine ex_norm ?_;apply_assumption
  refine wp_exit ?_;repeat (first | (with_reducible refine ex_then ?_) | (with_reducible refine ex_skip (by decide) ?_))
  refine ex_hit ?_;try (refine ex_norm ?_)
  apply_assumption
  try simp only [hW0]
  go_wp2_with fail
  try rw[hW0]
  refine cI.mono ?_;rintro e W1 ⟨rfl,hb1⟩;clear cI;have HR1:=hid ((hb1.block (w.heap.size+2) (by omega)).trans HR.out);have hs1:=hb1.size;have HB1:=hid (HB.out.trans (hb1.mono HB.out.size));clear hb1 HR HB p0 p1 p2 p3 p4 p5 q0 q1 q2 q3 q4 q5;go_wp2_with fail
  refine (cT _ _).mono ?_;rintro e W2 ⟨rfl,hb2⟩;clear cT;have hr:=(hb2.block (w.heap.size+2) (by omega)).trans HR1.out;have HB2:=hid (HB1.out.trans (hb2.mono HB1.out.size));clear hb2 HB1 HR1;obtain⟨r0,r1,r2,r3,r4,r5⟩:=six_box hr;obtain⟨rf0,rf1,rf2,rf3,rf4,rf5⟩:=Base.frz6 hr;go_wp2_with fail
  obtain⟨W9,hW9⟩:=stc6 W2 (w.heap.size+2) (.int .i64 2) (.bool false) (.int .i64 0) (.string ⟨#[]⟩) (.slice none 0 0) (.slice none 0 0);rw[hW9];obtain⟨q1,q2,q3,q4⟩:=set6 _ _ _ _ _ _ hr hW9;refine bodyPost_ret (results_cell_row rfl _ W9 (w.heap.size+2) 26 _ (0,0) _ rfl q1 underlying26 rfl (by kernel_rfl)) rfl ?_;try subst hB
  exact⟨rfl,q4 _ _ (by omega) HB2.out⟩
end Go.Proofs.YtdolgmmldncfkaaGreatDoor.VPs
namespace Go.Proofs.YtdolgmmldncfkaaGreatDoor.VNg
open Go.RowKit Base VPure VSm VIn VEx
theorem nm_blk {m:Nat} {Q:Exit->Act->World->Prop} {a:Act} {w:World} (h:Q .normal a w):Exit.inBlock m Q .normal a w:=h
theorem pair_Neg (k1:Int) (b1:Bool) (i1:Int) (s1:ByteArray) (an1:Option Addr) (ln1 cn1:Nat) (al1:Option Addr) (ll1 cl1:Nat) (k2:Int) (b2:Bool) (i2:Int) (s2:ByteArray) (an2:Option Addr) (ln2 cn2:Nat) (al2:Option Addr) (ll2 cl2:Nat) (w:World) (x e0:Int) (cW:k1=3->∀ W:World,Calls prog 89 #[.int .i64 0,.int .i64 i1] W fun e w'=>e=.returned (.tuple #[.int .i64 x,.int .i64 e0])/\w'=W) :
  Calls prog 68 #[.int .i64 10,vl k1 b1 i1 s1 (.slice an1 ln1 cn1) (.slice al1 ll1 cl1),vl k2 b2 i2 s2 (.slice an2 ln2 cn2) (.slice al2 ll2 cl2)] w fun e w'=>An w w' e (fun c:Int=>v0 3 false c ⟨#[]⟩) (twI 3 k1 x e0):=by
 obtain⟨W0,hW0,hs0,hb0,hp,hq,hr⟩:=two3 w #[.int .i64 k1,.bool b1,.int .i64 i1,.string s1,(.slice an1 ln1 cn1),(.slice al1 ll1 cl1)] #[.int .i64 k2,.bool b2,.int .i64 i2,.string s2,(.slice an2 ln2 cn2),(.slice al2 ll2 cl2)];have HR:=hid hr;have HB:=hid hb0;have HP:=hid hp;have HQ:=hid hq;obtain⟨p0,p1,p2,p3,p4,p5⟩:=six_box hp;obtain⟨q0,q1,q2,q3,q4,q5⟩:=six_box hq;have hsD:W0.drew.heap.size=w.heap.size+3:=by simp [hs0]
 have cN:=number_c 0;have cK:=checked_c x e0;obtain⟨U,hU⟩ : ∃ U,twI 3 k1 x e0=U:=⟨_,rfl⟩;rw[hU];unfold twI at hU;rw[if_pos rfl] at hU;have HU:=hid hU;clear hp hq hb0 hr hU;go_enter func68,ntmps68;go_upto_if 15 with fail
 refine wp_cond_true (by rfl) ?_;refine wp_exit ?_;repeat (first | (with_reducible refine ex_then ?_) | (with_reducible refine ex_skip (by decide) ?_))
 refine ex_hit ?_;refine ex_norm ?_;apply_assumption
 try simp only [hW0]
 go_region_with (first | (go_at_call 63;refine (cN _).mono ?_;rintro e V ⟨rfl,hbv⟩;have hvs:=hbv.size;have vp:=(hbv.block w.heap.size (by first | (rw[hsD];omega) | omega)).trans HP.out;have vq:=(hbv.block (w.heap.size+1) (by first | (rw[hsD];omega) | omega)).trans HQ.out;have vr:=(hbv.block (w.heap.size+2) (by first | (rw[hsD];omega) | omega)).trans HR.out;obtain⟨vc0,vc1,vc2,vc3,vc4,vc5⟩:=six_box vp;have vcf0:=frozen_box vp 0;have vcf1:=frozen_box vp 1;have vcf2:=frozen_box vp 2;have vcf3:=frozen_box vp 3;have vcf4:=frozen_box vp 4;have vcf5:=frozen_box vp 5;obtain⟨vd0,vd1,vd2,vd3,vd4,vd5⟩:=six_box vq;have vdf0:=frozen_box vq 0;have vdf1:=frozen_box vq 1;have vdf2:=frozen_box vq 2;have vdf3:=frozen_box vq 3;have vdf4:=frozen_box vq 4;have vdf5:=frozen_box vq 5;obtain⟨V1,hV1⟩ : ∃ V1,((((((V.setCell ⟨w.heap.size,0,none⟩ (.int .i64 3)).setCell ⟨w.heap.size,1,none⟩ (.bool false)).setCell ⟨w.heap.size,2,none⟩ (.int .i64 0)).setCell ⟨w.heap.size,3,none⟩ (.string ⟨#[]⟩)).setCell ⟨w.heap.size,4,none⟩ (.slice none 0 0)).setCell ⟨w.heap.size,5,none⟩ (.slice none 0 0))=V1:=⟨_,rfl⟩;obtain⟨a1,a2,a3,a4⟩:=set6 _ _ _ _ _ _ vp hV1;have aq:=(a2 (w.heap.size+1) (by omega)).trans vq;obtain⟨ve0,ve1,ve2,ve3,ve4,ve5⟩:=six_box aq;have vef0:=frozen_box aq 0;have vef1:=frozen_box aq 1;have vef2:=frozen_box aq 2;have vef3:=frozen_box aq 3;have vef4:=frozen_box aq 4;have vef5:=frozen_box aq 5;obtain⟨V2,hV2⟩ : ∃ V2,((((((V1.setCell ⟨w.heap.size+1,0,none⟩ (.int .i64 k1)).setCell ⟨w.heap.size+1,1,none⟩ (.bool b1)).setCell ⟨w.heap.size+1,2,none⟩ (.int .i64 i1)).setCell ⟨w.heap.size+1,3,none⟩ (.string s1)).setCell ⟨w.heap.size+1,4,none⟩ (.slice an1 ln1 cn1)).setCell ⟨w.heap.size+1,5,none⟩ (.slice al1 ll1 cl1))=V2:=⟨_,rfl⟩;obtain⟨g1,g2,g3,g4⟩:=set6 _ _ _ _ _ _ aq hV2;obtain⟨U1,hU1⟩ : ∃ U1,((((((V.setCell ⟨w.heap.size+1,0,none⟩ (.int .i64 k1)).setCell ⟨w.heap.size+1,1,none⟩ (.bool b1)).setCell ⟨w.heap.size+1,2,none⟩ (.int .i64 i1)).setCell ⟨w.heap.size+1,3,none⟩ (.string s1)).setCell ⟨w.heap.size+1,4,none⟩ (.slice an1 ln1 cn1)).setCell ⟨w.heap.size+1,5,none⟩ (.slice al1 ll1 cl1))=U1:=⟨_,rfl⟩;obtain⟨d1,d2,d3,d4⟩:=set6 _ _ _ _ _ _ vq hU1;have dp:=(d2 w.heap.size (by omega)).trans vp;obtain⟨vg0,vg1,vg2,vg3,vg4,vg5⟩:=six_box dp;have vgf0:=frozen_box dp 0;have vgf1:=frozen_box dp 1;have vgf2:=frozen_box dp 2;have vgf3:=frozen_box dp 3;have vgf4:=frozen_box dp 4;have vgf5:=frozen_box dp 5;obtain⟨U2,hU2⟩ : ∃ U2,((((((U1.setCell ⟨w.heap.size,0,none⟩ (.int .i64 3)).setCell ⟨w.heap.size,1,none⟩ (.bool false)).setCell ⟨w.heap.size,2,none⟩ (.int .i64 0)).setCell ⟨w.heap.size,3,none⟩ (.string ⟨#[]⟩)).setCell ⟨w.heap.size,4,none⟩ (.slice none 0 0)).setCell ⟨w.heap.size,5,none⟩ (.slice none 0 0))=U2:=⟨_,rfl⟩;obtain⟨j1,j2,j3,j4⟩:=set6 _ _ _ _ _ _ dp hU2;have HV0:Hid (Below w.heap.size w V):=bel_d HB.out hbv;have HV2:Hid (Below w.heap.size w V2/\V2.heap.size ≥ w.heap.size+3/\V2.heap[w.heap.size]? = some (.cells #[.int .i64 3,.bool false,.int .i64 0,.string ⟨#[]⟩,.slice none 0 0,.slice none 0 0] 26 (0,0))/\V2.heap[w.heap.size+1]? = some (.cells #[.int .i64 k1,.bool b1,.int .i64 i1,.string s1,(.slice an1 ln1 cn1),(.slice al1 ll1 cl1)] 26 (0,0))/\V2.heap[w.heap.size+2]? = some (.cells #[.int .i64 0,.bool false,.int .i64 0,.string ⟨#[]⟩,.slice none 0 0,.slice none 0 0] 26 (0,0))):=⟨g4 _ _ (by omega) (a4 _ _ (Nat.le_refl _) HV0.out),by rw[<- hV2,<- hV1];simp;omega,(g2 _ (by omega)).trans a1,g1,(g2 _ (by omega)).trans ((a2 _ (by omega)).trans vr)⟩;have HU2:Hid (Below w.heap.size w U2/\U2.heap.size ≥ w.heap.size+3/\U2.heap[w.heap.size]? = some (.cells #[.int .i64 3,.bool false,.int .i64 0,.string ⟨#[]⟩,.slice none 0 0,.slice none 0 0] 26 (0,0))/\U2.heap[w.heap.size+1]? = some (.cells #[.int .i64 k1,.bool b1,.int .i64 i1,.string s1,(.slice an1 ln1 cn1),(.slice al1 ll1 cl1)] 26 (0,0))/\U2.heap[w.heap.size+2]? = some (.cells #[.int .i64 0,.bool false,.int .i64 0,.string ⟨#[]⟩,.slice none 0 0,.slice none 0 0] 26 (0,0))):=⟨j4 _ _ (Nat.le_refl _) (d4 _ _ (by omega) HV0.out),by rw[<- hU2,<- hU1];simp;omega,j1,(j2 _ (by omega)).trans d1,(j2 _ (by omega)).trans ((d2 _ (by omega)).trans vr)⟩;clear a1 a2 a3 a4 g1 g2 g3 g4 d1 d2 d3 d4 j1 j2 j3 j4 aq dp vp vq vr hbv) | fail)
 all_goals clear vc0 vc1 vc2 vc3 vc4 vc5 vd0 vd1 vd2 vd3 vd4 vd5 ve0 ve1 ve2 ve3 ve4 ve5 vg0 vg1 vg2 vg3 vg4 vg5 vcf0 vcf1 vcf2 vcf3 vcf4 vcf5 vdf0 vdf1 vdf2 vdf3 vdf4 vdf5 vef0 vef1 vef2 vef3 vef4 vef5 vgf0 vgf1 vgf2 vgf3 vgf4 vgf5
 ·refine nm_blk ?_
  refine ex_norm ?_;apply_assumption
  obtain⟨hB,hgt,hp,hq,hr⟩:=HV2.out;have cI:=integers_c 3 false 0 ⟨#[]⟩ (.slice none 0 0) (.slice none 0 0) k1 b1 i1 s1 (.slice an1 ln1 cn1) (.slice al1 ll1 cl1) V2;rw[if_pos rfl] at cI;obtain⟨p0,p1,p2,p3,p4,p5⟩:=six_box hp;obtain⟨q0,q1,q2,q3,q4,q5⟩:=six_box hq;have HR:=hid hr;have HB:=hid hB;clear hp hq hr hB;have hU:=HU.out;clear HU HV2 HU2;go_wp2_with fail
  refine cI.mono ?_;intro e W1 hA;clear cI;by_cases h2:k1=3
  ·rw[if_pos h2] at hA hU
   obtain⟨rfl,hb1⟩:=hA;have cw:=cW h2 W1;have HR1:=hid ((hb1.block (w.heap.size+2) (by omega)).trans HR.out);have hs1:=hb1.size;have HB1:=hid (HB.out.trans (hb1.mono HB.out.size));clear hb1 HR HB h2 cW p0 p1 p2 p3 p4 p5 q0 q1 q2 q3 q4 q5;go_wp2_with fail
   refine cw.mono ?_;rintro e W2 ⟨rfl,rfl⟩;clear cw;have cK:=cK W2;unfold chkI at hU;rw[hU] at cK;have hU2:=hU;clear hU;go_wp2_with fail
   refine cK.mono ?_;intro e W3 hA;clear cK;cases U with
   | error c=>
    obtain⟨rfl,hb3⟩:=hA;exact⟨rfl,rfl,HB1.out.trans (hb3.mono HB1.out.size)⟩
   | ok y=>
    obtain⟨rfl,hb3⟩:=hA;have hr:=(hb3.block (w.heap.size+2) (by omega)).trans HR1.out;have HB3:=hid (HB1.out.trans (hb3.mono HB1.out.size));clear hb3 HB1 HR1 hU2;obtain⟨r0,r1,r2,r3,r4,r5⟩:=six_box hr;obtain⟨rf0,rf1,rf2,rf3,rf4,rf5⟩:=Base.frz6 hr;go_wp2_with fail
    obtain⟨W9,hW9⟩:=stc6 W3 (w.heap.size+2) (.int .i64 3) (.bool false) (.int .i64 y) (.string ⟨#[]⟩) (.slice none 0 0) (.slice none 0 0);rw[hW9];obtain⟨q1,q2,q3,q4⟩:=set6 _ _ _ _ _ _ hr hW9;refine bodyPost_ret (results_cell_row rfl _ W9 (w.heap.size+2) 26 _ (0,0) _ rfl q1 underlying26 rfl (by kernel_rfl)) rfl ?_;exact⟨rfl,q4 _ _ (by omega) HB3.out⟩
  ·rw[if_neg h2] at hA hU
   obtain⟨rfl,hb1⟩:=hA;subst hU;exact⟨rfl,rfl,HB.out.trans (hb1.mono HB.out.size)⟩
 ·refine nm_blk ?_
  refine ex_norm ?_;apply_assumption
  obtain⟨hB,hgt,hp,hq,hr⟩:=HV2.out;have cI:=integers_c 3 false 0 ⟨#[]⟩ (.slice none 0 0) (.slice none 0 0) k1 b1 i1 s1 (.slice an1 ln1 cn1) (.slice al1 ll1 cl1) V2;rw[if_pos rfl] at cI;obtain⟨p0,p1,p2,p3,p4,p5⟩:=six_box hp;obtain⟨q0,q1,q2,q3,q4,q5⟩:=six_box hq;have HR:=hid hr;have HB:=hid hB;clear hp hq hr hB;have hU:=HU.out;clear HU HV2 HU2;go_wp2_with fail
  refine cI.mono ?_;intro e W1 hA;clear cI;by_cases h2:k1=3
  ·rw[if_pos h2] at hA hU
   obtain⟨rfl,hb1⟩:=hA;have cw:=cW h2 W1;have HR1:=hid ((hb1.block (w.heap.size+2) (by omega)).trans HR.out);have hs1:=hb1.size;have HB1:=hid (HB.out.trans (hb1.mono HB.out.size));clear hb1 HR HB h2 cW p0 p1 p2 p3 p4 p5 q0 q1 q2 q3 q4 q5;go_wp2_with fail
   refine cw.mono ?_;rintro e W2 ⟨rfl,rfl⟩;clear cw;have cK:=cK W2;unfold chkI at hU;rw[hU] at cK;have hU2:=hU;clear hU;go_wp2_with fail
   refine cK.mono ?_;intro e W3 hA;clear cK;cases U with
   | error c=>
    obtain⟨rfl,hb3⟩:=hA;exact⟨rfl,rfl,HB1.out.trans (hb3.mono HB1.out.size)⟩
   | ok y=>
    obtain⟨rfl,hb3⟩:=hA;have hr:=(hb3.block (w.heap.size+2) (by omega)).trans HR1.out;have HB3:=hid (HB1.out.trans (hb3.mono HB1.out.size));clear hb3 HB1 HR1 hU2;obtain⟨r0,r1,r2,r3,r4,r5⟩:=six_box hr;obtain⟨rf0,rf1,rf2,rf3,rf4,rf5⟩:=Base.frz6 hr;go_wp2_with fail
    obtain⟨W9,hW9⟩:=stc6 W3 (w.heap.size+2) (.int .i64 3) (.bool false) (.int .i64 y) (.string ⟨#[]⟩) (.slice none 0 0) (.slice none 0 0);rw[hW9];obtain⟨q1,q2,q3,q4⟩:=set6 _ _ _ _ _ _ hr hW9;refine bodyPost_ret (results_cell_row rfl _ W9 (w.heap.size+2) 26 _ (0,0) _ rfl q1 underlying26 rfl (by kernel_rfl)) rfl ?_;exact⟨rfl,q4 _ _ (by omega) HB3.out⟩
  ·rw[if_neg h2] at hA hU
   obtain⟨rfl,hb1⟩:=hA;subst hU;exact⟨rfl,rfl,HB.out.trans (hb1.mono HB.out.size)⟩
end Go.Proofs.YtdolgmmldncfkaaGreatDoor.VNg

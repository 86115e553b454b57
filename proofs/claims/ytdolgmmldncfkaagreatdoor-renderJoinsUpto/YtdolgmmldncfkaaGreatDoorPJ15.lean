import Derived.Test.YtdolgmmldncfkaaGreatDoorPJ05
import Derived.Test.YtdolgmmldncfkaaGreatDoorPJ06
import Derived.Test.YtdolgmmldncfkaaGreatDoorPJ09
import Derived.Test.YtdolgmmldncfkaaGreatDoorPJ12
import Derived.Test.YtdolgmmldncfkaaGreatDoorPJ13
import Derived.Test.YtdolgmmldncfkaaGreatDoorPJ14
open Go.Proofs.Tryz
set_option linter.unusedVariables false
set_option maxRecDepth 20000
set_option maxHeartbeats 3200000
namespace Go.Proofs.YtdolgmmldncfkaaGreatDoor.VPt
open Go.RowKit Base VPure VSm VEx VRs
theorem part_c {K m:Nat} {w:World} {va vb:Value} {a b:C} (hK:K<=w.heap.size) (hva:Base.In false (fun b=>b<K) w (m+1) va a) (hvb:Base.In false (fun b=>b<K) w (m+1) vb b) (hw:a.k=6->a.n.length<=a.l.length) :
  Calls prog 86 #[va,vb] w fun e w'=>VR K (m+1) w (VPure.prt a b) e w':=by
 unfold VPure.prt;obtain⟨U,hU⟩ : ∃ U,prtR a.k a.n a.l b.k b.i b.s=U:=⟨_,rfl⟩;rw[hU];obtain⟨m',nv,lv,hm,rfl,hk1,hi1,hs1,hn1,hl1⟩:=hva.shape;obtain rfl:m'=m:=by omega
 obtain⟨an,cn,rfl,hn2,hn3,hn4,hn5,hn6,hN⟩:=hn1.out;obtain⟨al,cl,rfl,hl2,hl3,hl4,hl5,hL⟩:=hl1.out;obtain⟨bn,mn,dn,bl,ml,dl,rfl⟩:=in_shape hvb;have HN1:=hid hn1;have HLL:=hid hL;have hkb:=in_rng hvb;obtain⟨k1,b1,i1,s1,n,l⟩:=a;obtain⟨k2,b2,i2,s2,n2,l2⟩:=b;simp only [C.k, C.b, C.i, C.s, C.n, C.l] at *;unfold prtR at hU;obtain⟨ln,hln⟩ : ∃ ln,n.length=ln:=⟨_,rfl⟩;obtain⟨ll,hll⟩ : ∃ ll,l.length=ll:=⟨_,rfl⟩;rw[hln] at HN1 hn2 hn4 hw;rw[hll] at hl2 hl4 hw;rw[hln,hll];obtain⟨W0,hW0,hs0,hb0,hp,hq,hr⟩:=two3 w #[.int .i64 k1,.bool b1,.int .i64 i1,.string s1,.slice an ln cn,.slice al ll cl] #[.int .i64 k2,.bool b2,.int .i64 i2,.string s2,.slice bn mn dn,.slice bl ml dl];have HR:=hid hr;have HB:=hid hb0;have HQ:=hid hq;have HP:=hid hp;obtain⟨p0,p1,p2,p3,p4,p5⟩:=six_box hp;obtain⟨q0,q1,q2,q3,q4,q5⟩:=six_box hq;obtain⟨r0,r1,r2,r3,r4,r5⟩:=six_box hr;obtain⟨rf0,rf1,rf2,rf3,rf4,rf5⟩:=Base.frz6 hr;have HLN:Hid (n.length=ln/\l.length=ll):=⟨hln,hll⟩
 have HW:=hid hw;clear hva hvb hn1 hl1 hN hL hp hq hb0 hr hln hll hw;by_cases h5:k1=5
 ·rw[if_pos h5] at hU
  subst h5;have cI:=integer_c k2 b2 i2 s2 (.slice bn mn dn) (.slice bl ml dl) W0;by_cases h3:k2=3
  ·rw[if_pos h3] at cI hU
   clear h3;by_cases hneg:i2<0
   ·rw[if_pos (.inl hneg)] at hU
    subst hU;have d0:decide (i2<0)=true:=decide_eq_true hneg;clear hneg;go_enter func86,ntmps86;go_wp2_with fail
    try rw[hW0]
    refine cI.mono ?_;rintro e W1 ⟨rfl,hb1⟩;have hs1':=hb1.size;have HB1:=hid (HB.out.trans (hb1.mono HB.out.size));obtain⟨p0,p1,p2,p3,p4,p5⟩:=six_box ((hb1.block w.heap.size (by omega)).trans HP.out);have HR1:=hid ((hb1.block (w.heap.size+2) (by omega)).trans HR.out);have hr:=HR1.out;obtain⟨r0,r1,r2,r3,r4,r5⟩:=six_box hr;obtain⟨rf0,rf1,rf2,rf3,rf4,rf5⟩:=Base.frz6 hr;clear hb1 cI hr;go_wp2_with fail
    exact⟨rfl,HB1.out,rfl⟩
   by_cases hbig:(ll:Int)<=i2
   ·rw[if_pos (.inr (by rw[HLN.out.2];exact hbig))] at hU
    subst hU;have d0:decide (i2<0)=false:=decide_eq_false hneg;have d1:decide ((ll:Int)<=i2)=true:=decide_eq_true hbig;clear hbig hneg;go_enter func86,ntmps86;go_wp2_with fail
    try rw[hW0]
    refine cI.mono ?_;rintro e W1 ⟨rfl,hb1⟩;have hs1':=hb1.size;have HB1:=hid (HB.out.trans (hb1.mono HB.out.size));obtain⟨p0,p1,p2,p3,p4,p5⟩:=six_box ((hb1.block w.heap.size (by omega)).trans HP.out);have HR1:=hid ((hb1.block (w.heap.size+2) (by omega)).trans HR.out);have hr:=HR1.out;obtain⟨r0,r1,r2,r3,r4,r5⟩:=six_box hr;obtain⟨rf0,rf1,rf2,rf3,rf4,rf5⟩:=Base.frz6 hr;clear hb1 cI hr;go_wp2_with fail
    exact⟨rfl,HB1.out,rfl⟩
   skip
   rw[if_neg (by rw[HLN.out.2];omega)] at hU;obtain⟨q,rfl⟩ : ∃ q:Nat,i2=q:=⟨i2.toNat,by omega⟩;have hq:q<ll:=by omega
   have d0':decide ((q:Int)<0)=false:=decide_eq_false (by omega);have d1':decide ((ll:Int)<=(q:Int))=false:=decide_eq_false (by omega);clear hbig hneg;go_enter func86,ntmps86;go_wp2_with fail
   try rw[hW0]
   refine cI.mono ?_;rintro e W1 ⟨rfl,hb1⟩;have hs1':=hb1.size;have HB1:=hid (HB.out.trans (hb1.mono HB.out.size));obtain⟨p0,p1,p2,p3,p4,p5⟩:=six_box ((hb1.block w.heap.size (by omega)).trans HP.out);have HR1:=hid ((hb1.block (w.heap.size+2) (by omega)).trans HR.out);have hr:=HR1.out;obtain⟨r0,r1,r2,r3,r4,r5⟩:=six_box hr;obtain⟨rf0,rf1,rf2,rf3,rf4,rf5⟩:=Base.frz6 hr;clear hb1 cI hr;obtain⟨g,oo,u,rfl,hSg,hSix,hIn⟩:=Base.elem_at HLL.out (q:=q) (by rw[HLN.out.2];omega);have hSix:=(Base.Keep.of_below (S:=All) (HB1.out)).six trivial hSix;obtain⟨e,he⟩ : ∃ e,l[q]'(by rw[HLN.out.2];omega)=e:=⟨_,rfl⟩;rw[he] at hIn;obtain⟨x0,x1,x2,x3,x4,x5,rfl,d0,d1,d2,d3,d4,d5⟩:=hSix;obtain⟨en,eln,ecn,el,ell,ecl,hu⟩:=in_shape hIn;injection hu with hu
   simp only [Array.mk.injEq, List.cons.injEq, and_true] at hu;obtain⟨rfl,rfl,rfl,rfl,rfl,rfl⟩:=hu;have hge:l.getD q zerC=e:=by rw[List.getD_eq_getElem?_getD,List.getElem?_eq_getElem (by rw[HLN.out.2];omega),he];rfl
   have HI:=hid hIn;clear hIn he;rw[Int.toNat_natCast,hge] at hU;subst hU;clear hge;have hcl:ll<=cl:=hl2;skip
   generalize e.k=ek at *
   generalize e.b=eb at *
   generalize e.i=ei at *
   generalize e.s=es at *
   go_wp2_with fail
   obtain⟨W9,hW9⟩:=stc6 W1 (w.heap.size+2) (.int .i64 ek) (.bool eb) (.int .i64 ei) (.string es) (.slice en eln ecn) (.slice el ell ecl);rw[hW9];obtain⟨q1,q2,q3,q4⟩:=set6 _ _ _ _ _ _ HR1.out hW9;refine bodyPost_ret (results_cell_row rfl _ W9 (w.heap.size+2) 26 _ (0,0) _ rfl q1 underlying26 rfl (by kernel_rfl)) rfl ?_;skip
   exact⟨q4 _ _ (by omega) HB1.out,_,rfl,(in_low HI.out ((q4 _ _ (by omega) HB1.out).mono hK)).weak (fun _ h=>h) false id _ (by omega)⟩
  ·rw[if_neg h3] at cI hU
   subst hU;clear h3;go_enter func86,ntmps86;go_wp2_with fail
   try rw[hW0]
   refine cI.mono ?_;rintro e W1 ⟨rfl,hb1⟩;exact⟨rfl,HB.out.trans (hb1.mono HB.out.size),rfl⟩
 rw[if_neg h5] at hU;have e5:(k1 == 5)=false:=by simp [h5]
 by_cases h64:k1=6/\k2=4
 ·rw[if_pos h64] at hU
  obtain⟨rfl,rfl⟩:=h64;have hwn:=HW.out rfl;have cT:=must_t W0;have hx:Tx false All W0 (.slice an ln cn) n:=(HN1.out.weak (S':=All) (fun _ _=>trivial) false id).below HB.out;have cX:=Part.index_c (.slice an ln cn) n s2 W0 hx;unfold Part.fiI at cX;clear h5 e5 hx;cases hfi:Part.fi n s2 with
  | none=>
   rw[hfi] at cX hU;simp only at cX hU;subst hU;clear hfi;go_enter func86,ntmps86;go_wp2_with fail
   try rw[hW0]
   refine cT.mono ?_;rintro e W0 ⟨⟨v,rfl⟩,rfl⟩;go_wp2_with fail
   refine cX.mono ?_;rintro e W1 ⟨rfl,hb1⟩;have hs1':=hb1.size;have HB1:=hid (HB.out.trans (hb1.mono HB.out.size));obtain⟨p0,p1,p2,p3,p4,p5⟩:=six_box ((hb1.block w.heap.size (by omega)).trans HP.out);have HR1:=hid ((hb1.block (w.heap.size+2) (by omega)).trans HR.out);have hr:=HR1.out;obtain⟨r0,r1,r2,r3,r4,r5⟩:=six_box hr;obtain⟨rf0,rf1,rf2,rf3,rf4,rf5⟩:=Base.frz6 hr;clear hb1 cX cT hr;go_wp2_with fail
   exact⟨rfl,HB1.out,rfl⟩
  | some q=>
   have hq:=Part.fi_lt hfi;rw[HLN.out.1] at hq;rw[hfi] at cX hU;simp only at cX hU;clear hfi;have hq2:q<ll:=by omega
   have d0':decide ((q:Int)<0)=false:=decide_eq_false (by omega);have hcl:ll<=cl:=hl2;go_enter func86,ntmps86;go_wp2_with fail
   try rw[hW0]
   refine cT.mono ?_;rintro e W0 ⟨⟨v,rfl⟩,rfl⟩;go_wp2_with fail
   refine cX.mono ?_;rintro e W1 ⟨rfl,hb1⟩;have hs1':=hb1.size;have HB1:=hid (HB.out.trans (hb1.mono HB.out.size));obtain⟨p0,p1,p2,p3,p4,p5⟩:=six_box ((hb1.block w.heap.size (by omega)).trans HP.out);have HR1:=hid ((hb1.block (w.heap.size+2) (by omega)).trans HR.out);have hr:=HR1.out;obtain⟨r0,r1,r2,r3,r4,r5⟩:=six_box hr;obtain⟨rf0,rf1,rf2,rf3,rf4,rf5⟩:=Base.frz6 hr;clear hb1 cX cT hr;obtain⟨g,oo,u,rfl,hSg,hSix,hIn⟩:=Base.elem_at HLL.out (q:=q) (by rw[HLN.out.2];omega);have hSix:=(Base.Keep.of_below (S:=All) (HB1.out)).six trivial hSix;obtain⟨e,he⟩ : ∃ e,l[q]'(by rw[HLN.out.2];omega)=e:=⟨_,rfl⟩;rw[he] at hIn;obtain⟨x0,x1,x2,x3,x4,x5,rfl,d0,d1,d2,d3,d4,d5⟩:=hSix;obtain⟨en,eln,ecn,el,ell,ecl,hu⟩:=in_shape hIn;injection hu with hu
   simp only [Array.mk.injEq, List.cons.injEq, and_true] at hu;obtain⟨rfl,rfl,rfl,rfl,rfl,rfl⟩:=hu;have hge:l.getD q zerC=e:=by rw[List.getD_eq_getElem?_getD,List.getElem?_eq_getElem (by rw[HLN.out.2];omega),he];rfl
   have HI:=hid hIn;clear hIn he;rw[hge] at hU;subst hU;clear hge;generalize e.k=ek at *
   generalize e.b=eb at *
   generalize e.i=ei at *
   generalize e.s=es at *
   go_wp2_with fail
   obtain⟨W9,hW9⟩:=stc6 W1 (w.heap.size+2) (.int .i64 ek) (.bool eb) (.int .i64 ei) (.string es) (.slice en eln ecn) (.slice el ell ecl);rw[hW9];obtain⟨q1,q2,q3,q4⟩:=set6 _ _ _ _ _ _ HR1.out hW9;refine bodyPost_ret (results_cell_row rfl _ W9 (w.heap.size+2) 26 _ (0,0) _ rfl q1 underlying26 rfl (by kernel_rfl)) rfl ?_;skip
   exact⟨q4 _ _ (by omega) HB1.out,_,rfl,(in_low HI.out ((q4 _ _ (by omega) HB1.out).mono hK)).weak (fun _ h=>h) false id _ (by omega)⟩
 ·rw[if_neg h64] at hU
  subst hU;by_cases g6:k1=6
  ·have e6:(k1 == 6)=true:=by simp [g6]
   have e4:(k2 == 4)=false:=by simp;omega
   clear h5 h64 g6;have cF:=must_f W0;go_enter func86,ntmps86;go_wp2_with fail
   try rw[hW0]
   refine cF.mono ?_;rintro e W1 ⟨rfl,rfl⟩;exact⟨rfl,HB.out,rfl⟩
  ·have e6:(k1 == 6)=false:=by simp [g6]
   clear h5 h64 g6;have cF:=must_f W0;go_enter func86,ntmps86;go_wp2_with fail
   try rw[hW0]
   refine cF.mono ?_;rintro e W1 ⟨rfl,rfl⟩;exact⟨rfl,HB.out,rfl⟩
theorem pair7 {K m:Nat} {w:World} {va vb:Value} {a b:C} (hK:K<=w.heap.size) (hva:Base.In false (fun b=>b<K) w (m+1) va a) (hvb:Base.In false (fun b=>b<K) w (m+1) vb b) (hw:a.k=6->a.n.length<=a.l.length) :
  Calls prog 68 #[.int .i64 7,va,vb] w fun e w'=>VR K (m+1) w (VPure.prt a b) e w':=by
 obtain⟨U,hU⟩ : ∃ U,VPure.prt a b=U:=⟨_,rfl⟩;have cI:=fun W (hW:Below w.heap.size w W)=>part_c (w:=W) (Nat.le_trans hK hW.size) (in_low hva (hW.mono hK)) (in_low hvb (hW.mono hK)) hw
 rw[hU] at cI ⊢;obtain⟨an,ln,cn,al,ll,cl,rfl⟩:=in_shape hva;obtain⟨bn,mn,dn,bl,ml,dl,rfl⟩:=in_shape hvb;clear hU hva hvb hw;generalize a.k=k1 at *
 generalize a.b=b1 at *
 generalize a.i=i1 at *
 generalize a.s=s1 at *
 generalize b.k=k2 at *
 generalize b.b=b2 at *
 generalize b.i=i2 at *
 generalize b.s=s2 at *
 obtain⟨W0,hW0,hs0,hb0,hp,hq,hr⟩:=two3 w #[.int .i64 k1,.bool b1,.int .i64 i1,.string s1,.slice an ln cn,.slice al ll cl] #[.int .i64 k2,.bool b2,.int .i64 i2,.string s2,.slice bn mn dn,.slice bl ml dl];have HR:=hid hr;have HB:=hid hb0;obtain⟨p0,p1,p2,p3,p4,p5⟩:=six_box hp;obtain⟨q0,q1,q2,q3,q4,q5⟩:=six_box hq;have cI:=cI W0 hb0;clear hp hq hb0 hr;go_enter func68,ntmps68;go_upto_if 8 with fail
 refine wp_cond_true (by rfl) ?_;refine wp_skip ?_;refine ex_norm ?_;apply_assumption
 go_upto_if 8 with fail
 refine wp_cond_true (by rfl) ?_;refine wp_exit ?_;repeat (first | (with_reducible refine ex_then ?_) | (with_reducible refine ex_skip (by decide) ?_))
 refine ex_hit ?_;refine ex_norm ?_;apply_assumption
 refine wp_mono (Q:=Out ?outB) ?outM (out_mono ?outR ?outP)
 case outR=>intro a w h;(repeat (first | (with_reducible refine rt_then ?_) | (with_reducible refine rt_blk ?_)));exact h
 case outP=>intro c a w h;(repeat (first | (with_reducible refine pn_then ?_) | (with_reducible refine pn_blk ?_)));exact h
 try simp only [hW0]
 go_wp2_with fail
 try rw[hW0]
 refine cI.mono ?_;rintro e W1 ⟨hb1,hA⟩;clear cI;have hs1:=hb1.size;have HB1:=hid (HB.out.trans (hb1.mono HB.out.size));have HR1:=hid ((hb1.block (w.heap.size+2) (by omega)).trans HR.out);clear hb1;cases U with
 | error c=>
  obtain rfl:=hA;exact⟨rfl,HB1.out,rfl⟩
 | ok e=>
  obtain⟨u,rfl,hin⟩:=hA;obtain⟨en,eln,ecn,el,ell,ecl,rfl⟩:=in_shape hin
  have HI:=hid hin
  have hr:=HR1.out;obtain⟨r0,r1,r2,r3,r4,r5⟩:=six_box hr;obtain⟨rf0,rf1,rf2,rf3,rf4,rf5⟩:=Base.frz6 hr;clear hin hr;generalize e.k=ek at *
  generalize e.b=eb at *
  generalize e.i=ei at *
  generalize e.s=es at *
  go_wp2_with fail
  obtain⟨W9,hW9⟩:=stc6 W1 (w.heap.size+2) (.int .i64 ek) (.bool eb) (.int .i64 ei) (.string es) (.slice en eln ecn) (.slice el ell ecl);rw[hW9];obtain⟨q1,q2,q3,q4⟩:=set6 _ _ _ _ _ _ HR1.out hW9;first | refine out_ret (results_cell_row rfl _ W9 (w.heap.size+2) 26 _ (0,0) _ rfl q1 underlying26 rfl (by kernel_rfl)) rfl ?_ | refine bodyPost_ret (results_cell_row rfl _ W9 (w.heap.size+2) 26 _ (0,0) _ rfl q1 underlying26 rfl (by kernel_rfl)) rfl ?_
  exact⟨q4 _ _ (by omega) HB1.out,_,rfl,in_low HI.out (q4 _ _ (by omega) (Below.refl _ _))⟩
theorem pair8 {K m:Nat} {w:World} {va vb:Value} {a b:C} (hK:K<=w.heap.size) (hva:Base.In false (fun b=>b<K) w (m+1) va a) (hvb:Base.In false (fun b=>b<K) w (m+1) vb b) (hw:a.k=6->a.n.length<=a.l.length) :
  Calls prog 68 #[.int .i64 8,va,vb] w fun e w'=>VR K (m+1) w (VPure.prt a b) e w':=by
 obtain⟨U,hU⟩ : ∃ U,VPure.prt a b=U:=⟨_,rfl⟩;have cI:=fun W (hW:Below w.heap.size w W)=>part_c (w:=W) (Nat.le_trans hK hW.size) (in_low hva (hW.mono hK)) (in_low hvb (hW.mono hK)) hw
 rw[hU] at cI ⊢;obtain⟨an,ln,cn,al,ll,cl,rfl⟩:=in_shape hva;obtain⟨bn,mn,dn,bl,ml,dl,rfl⟩:=in_shape hvb;clear hU hva hvb hw;generalize a.k=k1 at *
 generalize a.b=b1 at *
 generalize a.i=i1 at *
 generalize a.s=s1 at *
 generalize b.k=k2 at *
 generalize b.b=b2 at *
 generalize b.i=i2 at *
 generalize b.s=s2 at *
 obtain⟨W0,hW0,hs0,hb0,hp,hq,hr⟩:=two3 w #[.int .i64 k1,.bool b1,.int .i64 i1,.string s1,.slice an ln cn,.slice al ll cl] #[.int .i64 k2,.bool b2,.int .i64 i2,.string s2,.slice bn mn dn,.slice bl ml dl];have HR:=hid hr;have HB:=hid hb0;obtain⟨p0,p1,p2,p3,p4,p5⟩:=six_box hp;obtain⟨q0,q1,q2,q3,q4,q5⟩:=six_box hq;have cI:=cI W0 hb0;clear hp hq hb0 hr;go_enter func68,ntmps68;go_upto_if 8 with fail
 refine wp_cond_false (by rfl) ?_;go_upto_if 8 with fail
 refine wp_cond_true (by rfl) ?_;refine wp_exit ?_;repeat (first | (with_reducible refine ex_then ?_) | (with_reducible refine ex_skip (by decide) ?_))
 refine ex_hit ?_;refine ex_norm ?_;apply_assumption
 refine wp_mono (Q:=Out ?outB) ?outM (out_mono ?outR ?outP)
 case outR=>intro a w h;(repeat (first | (with_reducible refine rt_then ?_) | (with_reducible refine rt_blk ?_)));exact h
 case outP=>intro c a w h;(repeat (first | (with_reducible refine pn_then ?_) | (with_reducible refine pn_blk ?_)));exact h
 try simp only [hW0]
 go_wp2_with fail
 try rw[hW0]
 refine cI.mono ?_;rintro e W1 ⟨hb1,hA⟩;clear cI;have hs1:=hb1.size;have HB1:=hid (HB.out.trans (hb1.mono HB.out.size));have HR1:=hid ((hb1.block (w.heap.size+2) (by omega)).trans HR.out);clear hb1;cases U with
 | error c=>
  obtain rfl:=hA;exact⟨rfl,HB1.out,rfl⟩
 | ok e=>
  obtain⟨u,rfl,hin⟩:=hA;obtain⟨en,eln,ecn,el,ell,ecl,rfl⟩:=in_shape hin
  have HI:=hid hin
  have hr:=HR1.out;obtain⟨r0,r1,r2,r3,r4,r5⟩:=six_box hr;obtain⟨rf0,rf1,rf2,rf3,rf4,rf5⟩:=Base.frz6 hr;clear hin hr;generalize e.k=ek at *
  generalize e.b=eb at *
  generalize e.i=ei at *
  generalize e.s=es at *
  go_wp2_with fail
  obtain⟨W9,hW9⟩:=stc6 W1 (w.heap.size+2) (.int .i64 ek) (.bool eb) (.int .i64 ei) (.string es) (.slice en eln ecn) (.slice el ell ecl);rw[hW9];obtain⟨q1,q2,q3,q4⟩:=set6 _ _ _ _ _ _ HR1.out hW9;first | refine out_ret (results_cell_row rfl _ W9 (w.heap.size+2) 26 _ (0,0) _ rfl q1 underlying26 rfl (by kernel_rfl)) rfl ?_ | refine bodyPost_ret (results_cell_row rfl _ W9 (w.heap.size+2) 26 _ (0,0) _ rfl q1 underlying26 rfl (by kernel_rfl)) rfl ?_
  exact⟨q4 _ _ (by omega) HB1.out,_,rfl,in_low HI.out (q4 _ _ (by omega) (Below.refl _ _))⟩
end Go.Proofs.YtdolgmmldncfkaaGreatDoor.VPt
namespace Go.Proofs.YtdolgmmldncfkaaGreatDoor.VPm
open Go.RowKit Base VPure VSm VJn VRs VPk
theorem an_boo {K m:Nat} {w w':World} {e:Ending} {x:Except Nat Int} {f:Int->Bool} (h:An w w' e (fun c:Bool=>v0 2 c 0 ⟨#[]⟩) (bnd x fun c=>.ok (f c))):VR K (m+1) w (bnd x fun c=>.ok (booC (f c))) e w':=by
 cases x with
 | error c=>exact⟨h.2,h.1⟩
 | ok c=>exact⟨h.2,_,h.1,in_boo _ _ _ _⟩
theorem pair23:PairOk 23:=by
 intro K m w va vb a b hK hT hva hvb hwf;obtain⟨an,ln,cn,al,ll,cl,rfl⟩:=in_shape hva;obtain⟨bn,mn,dn,bl,ml,dl,rfl⟩:=in_shape hvb;exact (VPo.pair_Less _ _ _ _ _ _ _ _ _ _ _ _ w).mono fun e w' h=>an_boo h
theorem pair24:PairOk 24:=by
 intro K m w va vb a b hK hT hva hvb hwf;obtain⟨an,ln,cn,al,ll,cl,rfl⟩:=in_shape hva;obtain⟨bn,mn,dn,bl,ml,dl,rfl⟩:=in_shape hvb;exact (VPo.pair_Most _ _ _ _ _ _ _ _ _ _ _ _ w).mono fun e w' h=>an_boo h
theorem pair25:PairOk 25:=by
 intro K m w va vb a b hK hT hva hvb hwf;obtain⟨an,ln,cn,al,ll,cl,rfl⟩:=in_shape hva;obtain⟨bn,mn,dn,bl,ml,dl,rfl⟩:=in_shape hvb;exact (VPq.pair_More _ _ _ _ _ _ _ _ _ _ _ _ _ _ _ _ _ _ _ _ w).mono fun e w' h=>an_boo h
theorem pair26:PairOk 26:=by
 intro K m w va vb a b hK hT hva hvb hwf;obtain⟨an,ln,cn,al,ll,cl,rfl⟩:=in_shape hva;obtain⟨bn,mn,dn,bl,ml,dl,rfl⟩:=in_shape hvb;exact (VPq.pair_Least _ _ _ _ _ _ _ _ _ _ _ _ _ _ _ _ _ _ _ _ w).mono fun e w' h=>an_boo h
theorem in_any {K m:Nat} {w:World} {v:Value} {c:C} (h:Base.In false (fun b=>b<K) w m v c):Base.In false All w m v c:=h.weak (fun _ _=>trivial) false id _ (Nat.le_refl _)
theorem pair27:PairOk 27:=by
 intro K m w va vb a b hK hT hva hvb hwf;obtain⟨an,ln,cn,al,ll,cl,rfl⟩:=in_shape hva;obtain⟨bn,mn,dn,bl,ml,dl,rfl⟩:=in_shape hvb;exact (VPs.pair_Same _ _ _ _ _ _ _ _ _ _ _ _ w (Eq.same a b) fun W hW=>Same.same_c ((in_any hva).below hW) ((in_any hvb).below hW)).mono fun e w' h=>⟨h.2,_,h.1,in_boo _ _ _ _⟩
theorem pair28:PairOk 28:=by
 intro K m w va vb a b hK hT hva hvb hwf;obtain⟨an,ln,cn,al,ll,cl,rfl⟩:=in_shape hva;obtain⟨bn,mn,dn,bl,ml,dl,rfl⟩:=in_shape hvb;exact (VPs.pair_Other _ _ _ _ _ _ _ _ _ _ _ _ w (Eq.same a b) fun W hW=>Same.same_c ((in_any hva).below hW) ((in_any hvb).below hW)).mono fun e w' h=>⟨h.2,_,h.1,in_boo _ _ _ _⟩
theorem pair10:PairOk 10:=by
 intro K m w va vb a b hK hT hva hvb hwf;obtain⟨an,ln,cn,al,ll,cl,rfl⟩:=in_shape hva;obtain⟨bn,mn,dn,bl,ml,dl,rfl⟩:=in_shape hvb;have ha:=in_rng hva;refine (VNg.pair_Neg _ _ _ _ _ _ _ _ _ _ _ _ _ _ _ _ _ _ _ _ w (wh 16 0 a.i).1 (wh 16 0 a.i).2 (fun _ W=>?_)).mono ?_
 ·exact WhA.sub 0 a.i (by omega) (by omega) ha.1 ha.2 W
 ·intro e w' h
  exact an_vr (fun c hc=>by rw[tw_ok hc];exact wh_rng (by decide)) h
theorem pair7:PairOk 7:=by
 intro K m w va vb a b hK hT hva hvb hwf;exact VPt.pair7 hK hva hvb hwf.1
theorem pair8:PairOk 8:=by
 intro K m w va vb a b hK hT hva hvb hwf;exact VPt.pair8 hK hva hvb hwf.1
theorem pair11:PairOk 11:=by
 intro K m w va vb a b hK hT hva hvb hwf;obtain⟨an,ln,cn,al,ll,cl,rfl⟩:=in_shape hva;obtain⟨bn,mn,dn,bl,ml,dl,rfl⟩:=in_shape hvb;refine (VBi.pair_11 _ _ _ _ _ _ _ _ _ _ _ _ w).mono fun e w' h=>?_
 have h:An w w' e (fun c:Bool=>v0 2 c 0 ⟨#[]⟩) (notT a.k a.b):=h;show VR K (m+1) w (mapB (notT a.k a.b)) e w';revert h
 generalize notT a.k a.b=x
 intro h;cases x with
 | error c=>exact⟨h.2,h.1⟩
 | ok c=>exact⟨h.2,_,h.1,in_boo _ _ _ _⟩
theorem tx_ok {k1 k2 x c:Int} (h:twX k1 k2 x=.ok c):c=x:=by
 unfold twX at h;by_cases h1:k1=3
 ·rw[if_pos h1] at h
  by_cases h2:k2=3
  ·rw[if_pos h2] at h;injection h with h;exact h.symm
  ·rw[if_neg h2] at h;cases h
 ·rw[if_neg h1] at h;cases h
theorem pair20:PairOk 20:=by
 intro K m w va vb a b hK hT hva hvb hwf;obtain⟨an,ln,cn,al,ll,cl,rfl⟩:=in_shape hva;obtain⟨bn,mn,dn,bl,ml,dl,rfl⟩:=in_shape hvb;exact (VBi.pair_20 _ _ _ _ _ _ _ _ _ _ _ _ w).mono fun e w' h=>an_vr (fun c hc=>by rw[tx_ok hc];exact VBi.bit_rng _ _ _) h
theorem pair21:PairOk 21:=by
 intro K m w va vb a b hK hT hva hvb hwf;obtain⟨an,ln,cn,al,ll,cl,rfl⟩:=in_shape hva;obtain⟨bn,mn,dn,bl,ml,dl,rfl⟩:=in_shape hvb;exact (VBi.pair_21 _ _ _ _ _ _ _ _ _ _ _ _ w).mono fun e w' h=>an_vr (fun c hc=>by rw[tx_ok hc];exact VBi.bit_rng _ _ _) h
theorem pair22:PairOk 22:=by
 intro K m w va vb a b hK hT hva hvb hwf;obtain⟨an,ln,cn,al,ll,cl,rfl⟩:=in_shape hva;obtain⟨bn,mn,dn,bl,ml,dl,rfl⟩:=in_shape hvb;exact (VBi.pair_22 _ _ _ _ _ _ _ _ _ _ _ _ w).mono fun e w' h=>an_vr (fun c hc=>by rw[tx_ok hc];exact VBi.bit_rng _ _ _) h
theorem pair9:PairOk 9:=by
 intro K m w va vb a b hK hT hva hvb hwf;show Calls prog 68 #[.int .i64 9,va,vb] w fun e w'=>VR K (m+1) w (cal a b.i) e w'
 have ha:=in_any hva;have hs:=ha.shape;obtain⟨m',nv,lv,-,rfl,-,hir,hsz,hn1,hl1⟩:=hva.shape;obtain⟨an,cn,rfl,-⟩:=hn1.out;obtain⟨al,cl,rfl,-,-,hl,-⟩:=hl1.out;obtain⟨bn,mn,dn,bl,ml,dl,rfl⟩:=in_shape hvb;obtain⟨k2,b2,i2,s2,n2,l2⟩:=b;simp only [C.k, C.b, C.i, C.s];have tI:∀ n:Int,∀ c,tunI n a.k a.i=.ok c -> -9223372036854775808<=c/\c<=9223372036854775807:=fun n c hc=>by
  unfold tunI at hc;by_cases h:a.k=3
  ·rw[if_pos h] at hc;injection hc with hc;rw[<- hc];exact VTo.tun_rng _ _
  ·rw[if_neg h] at hc;cases hc
 by_cases g1:i2=1
 ·subst g1
  refine (VCa.pair_9i _ _ _ _ _ _ _ _ _ _ _ _ w (lenI a.k a.s a.l.length) (fun W _=>VCa.call_1 _ _ _ _ _ _ _ _ _ _ _ _ _ _ _ _ _ _ _ W)).mono fun e w' h=>an_vr (fun c hc=>?_) h
  unfold lenI at hc;by_cases h4:a.k=4
  ·rw[if_pos h4] at hc;injection hc with hc;omega
  ·rw[if_neg h4] at hc
   by_cases h5:a.k=5\/a.k=6
   ·rw[if_pos h5] at hc;injection hc with hc;omega
   ·rw[if_neg h5] at hc;cases hc
 by_cases g2:i2=2
 ·subst g2
  refine (VCa.pair_9s _ _ _ _ _ _ _ _ _ _ _ _ w (txt a) (fun W hW=>VCa.call_2 _ _ _ _ _ _ _ _ _ _ _ _ _ _ _ _ _ _ _ W (ha.below hW) (hT.below hW))).mono fun e w' h=>?_
  have hle:∀ x,txt a=.ok x->x.size<=140737488351232:=fun x hx=>txt_le ha hx
  show VR K (m+1) w (mapS (txt a)) e w';revert h hle
  generalize txt a=x
  intro h hle;cases x with
  | error c=>exact⟨h.2,h.1⟩
  | ok c=>exact⟨h.2,_,h.1,in_str _ _ _ (hle c rfl)⟩
 by_cases g3:i2=3
 ·subst g3
  exact (VCa.pair_9i _ _ _ _ _ _ _ _ _ _ _ _ w (tunI 3 a.k a.i) (fun W _=>VCa.call_3 _ _ _ _ _ _ _ _ _ _ _ _ _ _ _ _ _ _ _ W)).mono fun e w' h=>an_vr (tI 3) h
 by_cases g4:i2=4
 ·subst g4
  exact (VCa.pair_9i _ _ _ _ _ _ _ _ _ _ _ _ w (tunI 4 a.k a.i) (fun W _=>VCa.call_4 _ _ _ _ _ _ _ _ _ _ _ _ _ _ _ _ _ _ _ W)).mono fun e w' h=>an_vr (tI 4) h
 by_cases g5:i2=5
 ·subst g5
  exact (VCa.pair_9i _ _ _ _ _ _ _ _ _ _ _ _ w (tunI 5 a.k a.i) (fun W _=>VCa.call_5 _ _ _ _ _ _ _ _ _ _ _ _ _ _ _ _ _ _ _ W)).mono fun e w' h=>an_vr (tI 5) h
 by_cases g6:i2=6
 ·subst g6
  exact (VCa.pair_9i _ _ _ _ _ _ _ _ _ _ _ _ w (tunI 6 a.k a.i) (fun W _=>VCa.call_6 _ _ _ _ _ _ _ _ _ _ _ _ _ _ _ _ _ _ _ W)).mono fun e w' h=>an_vr (tI 6) h
 by_cases g7:i2=7
 ·subst g7
  exact (VCa.pair_9i _ _ _ _ _ _ _ _ _ _ _ _ w (tunI 7 a.k a.i) (fun W _=>VCa.call_7 _ _ _ _ _ _ _ _ _ _ _ _ _ _ _ _ _ _ _ W)).mono fun e w' h=>an_vr (tI 7) h
 have et:tunI 8 a.k a.i=tunI i2 a.k a.i:=by
  unfold tunI tun;rw[if_neg g3,if_neg g4,if_neg g5,if_neg g6,if_neg g7];rfl
 have ec:cal a i2=mapI (tunI i2 a.k a.i):=by unfold cal;rw[if_neg g1,if_neg g2]
 rw[ec,<- et];exact (VCa.pair_9i _ _ _ _ _ _ _ _ _ _ _ _ w (tunI 8 a.k a.i) (fun W _=>VCa.call_8 _ _ _ _ _ _ _ _ _ _ _ _ _ _ _ _ _ _ _ _ W g1 g2 g3 g4 g5 g6 g7)).mono fun e w' h=>an_vr (tI 8) h
end Go.Proofs.YtdolgmmldncfkaaGreatDoor.VPm
namespace Go.Proofs.YtdolgmmldncfkaaGreatDoor.JS0
open Go.RowKit Base VSm VRs JVr
open VPure hiding evL
theorem second_zero {Kk m:Nat} {w:World} {Pv:Value} {o:Int} (i:Int) (s:ByteArray) (lv:Value) (ho:o=10\/o=11) :
  Calls prog 69 #[.agg #[clo Pv],xv o i s lv] w fun e w'=>VR Kk (m+1) w (.ok zerC) e w':=by
 obtain⟨W0,hW0,hs0,hb0,hk,hx,hr⟩:=three w #[clo Pv] #[.int .i64 o,.int .i64 i,.string s,lv] 97 44;have kc:W0.cell? ⟨w.heap.size,0,none⟩=some (clo Pv):=by simp [World.cell?, hk]
 obtain⟨x0,x1,x2,x3⟩:=XBase.four_box hx;have HR:=hid hr;have HB:=hid hb0;obtain⟨r0,r1,r2,r3,r4,r5⟩:=six_box hr;obtain⟨rf0,rf1,rf2,rf3,rf4,rf5⟩:=Base.frz6 hr;clear hk hx hr hb0;rcases ho with rfl|rfl
 ·go_enter func69,ntmps69
  go_wp2_with fail
  try rw[hW0]
  obtain⟨W9,hW9⟩:=stc6 W0 (w.heap.size+2) (.int .i64 0) (.bool false) (.int .i64 0) (.string ⟨#[]⟩) (.slice none 0 0) (.slice none 0 0);rw[hW9];obtain⟨q1,q2,q3,q4⟩:=set6 _ _ _ _ _ _ HR.out hW9;refine bodyPost_ret (results_cell_row rfl _ W9 (w.heap.size+2) 26 _ (0,0) _ rfl q1 underlying26 rfl (by kernel_rfl)) rfl ?_;exact⟨q4 _ _ (by omega) HB.out,_,rfl,in_zer _ _ _⟩
 ·go_enter func69,ntmps69
  go_wp2_with fail
  try rw[hW0]
  obtain⟨W9,hW9⟩:=stc6 W0 (w.heap.size+2) (.int .i64 0) (.bool false) (.int .i64 0) (.string ⟨#[]⟩) (.slice none 0 0) (.slice none 0 0);rw[hW9];obtain⟨q1,q2,q3,q4⟩:=set6 _ _ _ _ _ _ HR.out hW9;refine bodyPost_ret (results_cell_row rfl _ W9 (w.heap.size+2) 26 _ (0,0) _ rfl q1 underlying26 rfl (by kernel_rfl)) rfl ?_;exact⟨q4 _ _ (by omega) HB.out,_,rfl,in_zer _ _ _⟩
theorem second_text {Kk m:Nat} {w:World} {Pv:Value} (i:Int) (s:ByteArray) (lv:Value) (hs:s.size<=140737488351232) :
  Calls prog 69 #[.agg #[clo Pv],xv 7 i s lv] w fun e w'=>VR Kk (m+1) w (.ok (strC s)) e w':=by
 obtain⟨W0,hW0,hs0,hb0,hk,hx,hr⟩:=three w #[clo Pv] #[.int .i64 7,.int .i64 i,.string s,lv] 97 44;have kc:W0.cell? ⟨w.heap.size,0,none⟩=some (clo Pv):=by simp [World.cell?, hk]
 obtain⟨x0,x1,x2,x3⟩:=XBase.four_box hx;have HR:=hid hr;have HB:=hid hb0;have cC:=text_c s W0;clear hk hx hr hb0;go_enter func69,ntmps69;go_wp2_with fail
 try rw[hW0]
 refine cC.mono ?_;rintro e W1 ⟨rfl,hb1⟩;have hr:=(hb1.block (w.heap.size+2) (by omega)).trans HR.out;have HB1:=hid (HB.out.trans (hb1.mono HB.out.size));have hs1:=hb1.size;clear hb1 cC;obtain⟨r0,r1,r2,r3,r4,r5⟩:=six_box hr;obtain⟨rf0,rf1,rf2,rf3,rf4,rf5⟩:=Base.frz6 hr;go_wp2_with fail
 obtain⟨W9,hW9⟩:=stc6 W1 (w.heap.size+2) (.int .i64 4) (.bool false) (.int .i64 0) (.string s) (.slice none 0 0) (.slice none 0 0);rw[hW9];obtain⟨q1,q2,q3,q4⟩:=set6 _ _ _ _ _ _ hr hW9;refine bodyPost_ret (results_cell_row rfl _ W9 (w.heap.size+2) 26 _ (0,0) _ rfl q1 underlying26 rfl (by kernel_rfl)) rfl ?_;exact⟨q4 _ _ (by omega) HB1.out,_,rfl,in_str _ _ _ hs⟩
theorem second_num {Kk m:Nat} {w:World} {Pv:Value} (i:Int) (s:ByteArray) (lv:Value) (hi : -9223372036854775808<=i/\i<=9223372036854775807) :
  Calls prog 69 #[.agg #[clo Pv],xv 9 i s lv] w fun e w'=>VR Kk (m+1) w (.ok (intC i)) e w':=by
 obtain⟨W0,hW0,hs0,hb0,hk,hx,hr⟩:=three w #[clo Pv] #[.int .i64 9,.int .i64 i,.string s,lv] 97 44;have kc:W0.cell? ⟨w.heap.size,0,none⟩=some (clo Pv):=by simp [World.cell?, hk]
 obtain⟨x0,x1,x2,x3⟩:=XBase.four_box hx;have HR:=hid hr;have HB:=hid hb0;have cC:=number_c i W0;clear hk hx hr hb0;go_enter func69,ntmps69;go_wp2_with fail
 try rw[hW0]
 refine cC.mono ?_;rintro e W1 ⟨rfl,hb1⟩;have hr:=(hb1.block (w.heap.size+2) (by omega)).trans HR.out;have HB1:=hid (HB.out.trans (hb1.mono HB.out.size));have hs1:=hb1.size;clear hb1 cC;obtain⟨r0,r1,r2,r3,r4,r5⟩:=six_box hr;obtain⟨rf0,rf1,rf2,rf3,rf4,rf5⟩:=Base.frz6 hr;go_wp2_with fail
 obtain⟨W9,hW9⟩:=stc6 W1 (w.heap.size+2) (.int .i64 3) (.bool false) (.int .i64 i) (.string ⟨#[]⟩) (.slice none 0 0) (.slice none 0 0);rw[hW9];obtain⟨q1,q2,q3,q4⟩:=set6 _ _ _ _ _ _ hr hW9;refine bodyPost_ret (results_cell_row rfl _ W9 (w.heap.size+2) 26 _ (0,0) _ rfl q1 underlying26 rfl (by kernel_rfl)) rfl ?_;exact⟨q4 _ _ (by omega) HB1.out,_,rfl,in_int _ _ _ hi⟩
end Go.Proofs.YtdolgmmldncfkaaGreatDoor.JS0

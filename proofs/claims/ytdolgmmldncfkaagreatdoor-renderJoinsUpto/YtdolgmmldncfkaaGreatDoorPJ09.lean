import Derived.Test.YtdolgmmldncfkaaGreatDoorPJ04
import Derived.Test.YtdolgmmldncfkaaGreatDoorPJ05
import Derived.Test.YtdolgmmldncfkaaGreatDoorPJ08
open Go.Proofs.Tryz
set_option linter.unusedVariables false
set_option maxRecDepth 20000
set_option maxHeartbeats 6400000
namespace Go.Proofs.YtdolgmmldncfkaaGreatDoor.JPure
open Go.RowKit Base EPure VPure
open SFit (kd)
def evL (ρ:Int->Option C):List Ex->List Ans
 | []=>[]
 | .mk o i s l :: t=>node (fun _=>ρ i) o i s (evL ρ l) :: evL ρ t
def ev (ρ:Int->Option C) (x:Ex):Ans:=node (fun _=>ρ x.i) x.o x.i x.s (evL ρ x.l)
theorem evL_cons (ρ:Int->Option C) (x:Ex) (t:List Ex):evL ρ (x :: t)=ev ρ x :: evL ρ t:=by
 obtain⟨o,i,s,l⟩:=x;rw[evL];rfl
theorem evL_get (ρ:Int->Option C):∀ (l:List Ex) (j:Nat) (h:j<l.length),(evL ρ l).getD j (.error 0)=ev ρ l[j]
 | [],j,h=>absurd h (by simp)
 | x :: t,0,h=>by rw[evL_cons];rfl
 | x :: t,j+1,h=>by
  rw[evL_cons];have:=evL_get ρ t j (by simpa using h);simpa using this
theorem evL_wf {ρ:Int->Option C} (hρ:∀ (j:Int) c,ρ j=some c->wf c):∀ (l:List Ex) (q:Nat) (c:C),(evL ρ l).getD q (.error 0)=.ok c->wf c
 | [],q,c,h=>by simp [evL] at h
 | .mk o i s l :: t,0,c,h=>by
  rw[evL] at h;exact node_wf (fun _ c h=>hρ i c h) (evL_wf hρ l) h
 | .mk o i s l :: t,q+1,c,h=>by
  rw[evL] at h;exact evL_wf hρ t q c (by simpa using h)
theorem ev_wf {ρ:Int->Option C} (hρ:∀ (j:Int) c,ρ j=some c->wf c) (x:Ex) (c:C) (h:ev ρ x=.ok c):wf c:=node_wf (fun _ c h=>hρ x.i c h) (evL_wf hρ x.l) h
def gdL:List Ex->Prop
 | []=>True
 | .mk o i s l :: t=>((l.length:Int)=kd o/\True/\gdL l)/\gdL t
theorem gdL_cons {x:Ex} {t:List Ex}:gdL (x :: t) ↔ ((x.l.length:Int)=kd x.o/\True/\gdL x.l)/\gdL t:=by
 obtain⟨o,i,s,l⟩:=x;rw[gdL];exact Iff.rfl
def gd (x:Ex):Prop:=(x.l.length:Int)=kd x.o/\True/\gdL x.l
theorem gdL_get:∀ {l:List Ex},gdL l->∀ {j:Nat} (h:j<l.length),gd l[j]
 | [],_,_,h=>absurd h (by simp)
 | x :: t,hg,0,_=>(gdL_cons.1 hg).1
 | x :: t,hg,j+1,h=>gdL_get (gdL_cons.1 hg).2 (j:=j) (by simpa using h)
end Go.Proofs.YtdolgmmldncfkaaGreatDoor.JPure
namespace Go.Proofs.YtdolgmmldncfkaaGreatDoor.JVr
open Go.RowKit Base VSm VRs
open VPure hiding evL
abbrev clo (Pv:Value):Value:=.func (Fn.func 27) #[Pv] #[]
abbrev xv (o i:Int) (s:ByteArray) (lv:Value):Value:=.agg #[.int .i64 o,.int .i64 i,.string s,lv]
def Bd (K m:Nat) (w:World) (Pv:Value) (ρ:Int->Option C):Prop:=∀ W,Below w.heap.size w W->∀ (o i:Int) (s:ByteArray) (lv:Value),s.size<=140737488351232->Calls prog 27 #[Pv,xv o i s lv] W fun e w'=>Below W.heap.size W w' /\
 ∃ k b j t an ln cn al ll cl,e=.returned (.tuple #[vl k b j t (.slice an ln cn) (.slice al ll cl),.bool (ρ i).isSome])/\∀ c,ρ i=some c->Base.In false (fun b=>b<K) w' m (vl k b j t (.slice an ln cn) (.slice al ll cl)) c
theorem Bd.below {K m:Nat} {w w':World} {Pv:Value} {ρ:Int->Option C} (h:Bd K m w Pv ρ) (hb:Below w.heap.size w w'):Bd K m w' Pv ρ:=fun W hW=>h W (hb.trans (hW.mono hb.size))
theorem variable_c {K m:Nat} {w:World} {Pv:Value} {ρ:Int->Option C} (hK:K<=w.heap.size) (hB:Bd K m w Pv ρ) (o i:Int) (s:ByteArray) (lv:Value) (hs:s.size<=140737488351232) :
  Calls prog 65 #[.agg #[clo Pv],xv o i s lv] w fun e w'=>VR K m w (match ρ i with
   | none=>.error 1100
   | some c=>.ok c) e w':=by
 obtain⟨W0,hW0,hs0,hb0,hk,hx,hr⟩:=three w #[clo Pv] #[.int .i64 o,.int .i64 i,.string s,lv] 97 44;have kc:W0.cell? ⟨w.heap.size,0,none⟩=some (clo Pv):=by simp [World.cell?, hk]
 obtain⟨x0,x1,x2,x3⟩:=XBase.four_box hx;have cB:=hB W0 hb0 o i s lv hs;have HR:=hid hr;have HB:=hid hb0;clear hk hx hr hb0 hB;obtain⟨U,hU⟩ : ∃ U,(match ρ i with | none=>(.error 1100:Ans) | some c=>.ok c)=U:=⟨_,rfl⟩;rw[hU];go_enter func65,ntmps65;go_wp2_with fail
 try rw[hW0]
 refine cB.mono ?_;rintro e W1 ⟨hb1,k,b,j,t,an,ln,cn,al,ll,cl,rfl,hin⟩;have hs1:=hb1.size;have HR1:=hid ((hb1.block _ (by omega)).trans HR.out);have HB1:=hid (HB.out.trans (hb1.mono HB.out.size));clear hb1 cB HR HB kc x0 x1 x2 x3 hW0;obtain⟨W2,hW2⟩ : ∃ W2,W1.alloc (.cells #[.int .i64 0,.bool false,.int .i64 0,.string ⟨#[]⟩,.slice none 0 0,.slice none 0 0] 26)=W2:=⟨_,rfl⟩;have hn:=alG hW2;have hb2:=alB hW2;obtain⟨n0,n1,n2,n3,n4,n5⟩:=six_box hn;obtain⟨nf0,nf1,nf2,nf3,nf4,nf5⟩:=Base.frz6 hn;obtain⟨W3,hW3⟩:=stc6 W2 W1.heap.size (.int .i64 k) (.bool b) (.int .i64 j) (.string t) (.slice an ln cn) (.slice al ll cl);obtain⟨a1,a2,a3,a4⟩:=set6 _ _ _ _ _ _ hn hW3;have hb3:Below w.heap.size w W3:=a4 _ _ (by omega) (HB1.out.trans (hb2.mono HB1.out.size));have hr3:W3.heap[w.heap.size+2]? = some (.cells #[.int .i64 0,.bool false,.int .i64 0,.string ⟨#[]⟩,.slice none 0 0,.slice none 0 0] 26 (0,0)):=(a2 _ (by omega)).trans ((hb2.block _ (by omega)).trans HR1.out)
 obtain⟨g0,g1,g2,g3,g4,g5⟩:=six_box a1;have hr:=hr3;obtain⟨r0,r1,r2,r3,r4,r5⟩:=six_box hr;obtain⟨rf0,rf1,rf2,rf3,rf4,rf5⟩:=Base.frz6 hr;have HB3:=hid hb3;have HK3:=hid (a4 _ _ (Nat.le_refl _) hb2);have HRR:=hid hr3;clear a1 a2 a3 a4 hb2 hb3 hr3 hn hr HR1;cases hρ:ρ i with
 | none=>
  rw[hρ] at hU;subst hU;clear hin hρ;go_wp2_with fail
  exact⟨rfl,HB3.out,rfl⟩
 | some c=>
  have HI:=hid (hin c hρ);rw[hρ] at hU;subst hU;clear hin hρ;go_wp2_with fail
  obtain⟨W9,hW9⟩:=stc6 W3 (w.heap.size+2) (.int .i64 k) (.bool b) (.int .i64 j) (.string t) (.slice an ln cn) (.slice al ll cl);rw[hW9];obtain⟨q1,q2,q3,q4⟩:=set6 _ _ _ _ _ _ HRR.out hW9;refine bodyPost_ret (results_cell_row rfl _ W9 (w.heap.size+2) 26 _ (0,0) _ rfl q1 underlying26 rfl (by kernel_rfl)) rfl ?_;exact⟨q4 _ _ (by omega) HB3.out,_,rfl,in_low HI.out (q4 _ _ (by omega) (HK3.out.mono (by omega)))⟩
end Go.Proofs.YtdolgmmldncfkaaGreatDoor.JVr
namespace Go.Proofs.YtdolgmmldncfkaaGreatDoor.VPk
open Go.RowKit Base VPure VSm VEx VJn VRs Sums
def PairOk (o:Int):Prop:=∀ (K m:Nat) (w:World) (va vb:Value) (a b:C),K<=w.heap.size->Tb w->Base.In false (fun b=>b<K) w (m+1) va a->Base.In false (fun b=>b<K) w (m+1) vb b->wf a->Calls prog 68 #[.int .i64 o,va,vb] w fun e w'=>VR K (m+1) w (pr2 o a b) e w'
theorem pair15:PairOk 15:=by
 intro K m w va vb a b hK hT hva hvb hwf;obtain⟨an,ln,cn,al,ll,cl,rfl⟩:=in_shape hva;obtain⟨bn,mn,dn,bl,ml,dl,rfl⟩:=in_shape hvb;have ha:=in_rng hva;have hb:=in_rng hvb;refine (VPn.pair_Add _ _ _ _ _ _ _ _ _ _ _ _ w (wh 15 a.i b.i).1 (wh 15 a.i b.i).2 (fun _ _ W=>?_)).mono ?_
 ·exact WhA.add a.i b.i ha.1 ha.2 hb.1 hb.2 W
 ·intro e w' h
  exact an_vr (fun c hc=>by rw[tw_ok hc];exact wh_rng ha) h
theorem pair16:PairOk 16:=by
 intro K m w va vb a b hK hT hva hvb hwf;obtain⟨an,ln,cn,al,ll,cl,rfl⟩:=in_shape hva;obtain⟨bn,mn,dn,bl,ml,dl,rfl⟩:=in_shape hvb;have ha:=in_rng hva;have hb:=in_rng hvb;refine (VPn.pair_Sub _ _ _ _ _ _ _ _ _ _ _ _ w (wh 16 a.i b.i).1 (wh 16 a.i b.i).2 (fun _ _ W=>?_)).mono ?_
 ·exact WhA.sub a.i b.i ha.1 ha.2 hb.1 hb.2 W
 ·intro e w' h
  exact an_vr (fun c hc=>by rw[tw_ok hc];exact wh_rng ha) h
theorem pair12:PairOk 12:=by
 intro K m w va vb a b hK hT hva hvb hwf;obtain⟨an,ln,cn,al,ll,cl,rfl⟩:=in_shape hva;obtain⟨bn,mn,dn,bl,ml,dl,rfl⟩:=in_shape hvb;have ha:=in_rng hva;have hb:=in_rng hvb;refine (VPn.pair_Mul _ _ _ _ _ _ _ _ _ _ _ _ w (wh 12 a.i b.i).1 (wh 12 a.i b.i).2 (fun _ _ W=>?_)).mono ?_
 ·exact WhA.mul a.i b.i ha.1 ha.2 hb.1 hb.2 W
 ·intro e w' h
  exact an_vr (fun c hc=>by rw[tw_ok hc];exact wh_rng ha) h
theorem pair13:PairOk 13:=by
 intro K m w va vb a b hK hT hva hvb hwf;obtain⟨an,ln,cn,al,ll,cl,rfl⟩:=in_shape hva;obtain⟨bn,mn,dn,bl,ml,dl,rfl⟩:=in_shape hvb;have ha:=in_rng hva;have hb:=in_rng hvb;refine (VPn.pair_Div _ _ _ _ _ _ _ _ _ _ _ _ w (wh 13 a.i b.i).1 (wh 13 a.i b.i).2 (fun _ _ W=>?_)).mono ?_
 ·exact WhA.div a.i b.i ha.1 ha.2 W
 ·intro e w' h
  exact an_vr (fun c hc=>by rw[tw_ok hc];exact wh_rng ha) h
theorem pair14:PairOk 14:=by
 intro K m w va vb a b hK hT hva hvb hwf;obtain⟨an,ln,cn,al,ll,cl,rfl⟩:=in_shape hva;obtain⟨bn,mn,dn,bl,ml,dl,rfl⟩:=in_shape hvb;have ha:=in_rng hva;have hb:=in_rng hvb;refine (VPn.pair_Mod _ _ _ _ _ _ _ _ _ _ _ _ w (wh 14 a.i b.i).1 (wh 14 a.i b.i).2 (fun _ _ W=>?_)).mono ?_
 ·exact WhA.mod a.i b.i W
 ·intro e w' h
  exact an_vr (fun c hc=>by rw[tw_ok hc];exact wh_rng ha) h
theorem pair18:PairOk 18:=by
 intro K m w va vb a b hK hT hva hvb hwf;obtain⟨an,ln,cn,al,ll,cl,rfl⟩:=in_shape hva;obtain⟨bn,mn,dn,bl,ml,dl,rfl⟩:=in_shape hvb;have ha:=in_rng hva;have hb:=in_rng hvb;refine (VPn.pair_Shl _ _ _ _ _ _ _ _ _ _ _ _ w (wh 18 a.i b.i).1 (wh 18 a.i b.i).2 (fun _ _ W=>?_)).mono ?_
 ·by_cases h:0<=b.i/\b.i<=63
  ·have e:wh 18 a.i b.i=(num (a.i*2 ^ b.i.toNat),err (a.i*2 ^ b.i.toNat)):=if_pos h
   rw[e];exact WhA.shl a.i b.i h.1 h.2 W
  ·have e:wh 18 a.i b.i=(0,102):=if_neg h
   rw[e];exact WhA.shl_bad a.i b.i (by omega) W
 ·intro e w' h
  exact an_vr (fun c hc=>by rw[tw_ok hc];exact wh_rng ha) h
theorem pair19:PairOk 19:=by
 intro K m w va vb a b hK hT hva hvb hwf;obtain⟨an,ln,cn,al,ll,cl,rfl⟩:=in_shape hva;obtain⟨bn,mn,dn,bl,ml,dl,rfl⟩:=in_shape hvb;have ha:=in_rng hva;have hb:=in_rng hvb;refine (VPn.pair_Shr _ _ _ _ _ _ _ _ _ _ _ _ w (wh 19 a.i b.i).1 (wh 19 a.i b.i).2 (fun _ _ W=>?_)).mono ?_
 ·by_cases h:0<=b.i/\b.i<=63
  ·have e:wh 19 a.i b.i=(a.i / 2 ^ b.i.toNat,0):=if_pos h
   rw[e];exact WhA.shr a.i b.i h.1 h.2 W
  ·have e:wh 19 a.i b.i=(0,102):=if_neg h
   rw[e];exact WhA.shr_bad a.i b.i (by omega) W
 ·intro e w' h
  exact an_vr (fun c hc=>by rw[tw_ok hc];exact wh_rng ha) h
theorem pair_cat {m1 m2:Nat} {c1 c2:C} (k1:Int) (b1:Bool) (i1:Int) (s1:ByteArray) (n1 l1:Value) (k2:Int) (b2:Bool) (i2:Int) (s2:ByteArray) (n2 l2:Value) {w:World} (hi1:Base.In false All w m1 (vl k1 b1 i1 s1 n1 l1) c1) (hi2:Base.In false All w m2 (vl k2 b2 i2 s2 n2 l2) c2) (ht:Tb w):Calls prog 68 #[.int .i64 17,vl k1 b1 i1 s1 n1 l1,vl k2 b2 i2 s2 n2 l2] w fun e w'=>An w w' e (fun s:ByteArray=>v0 4 false 0 s) (bnd (txt c1) fun x=>bnd (txt c2) fun y=>if 4096<x.size+y.size then .error 1107 else .ok (x ++ y)):=by
 obtain⟨W0,hW0,hs0,hb0,hp,hq,hr⟩:=two3 w #[.int .i64 k1,.bool b1,.int .i64 i1,.string s1,n1,l1] #[.int .i64 k2,.bool b2,.int .i64 i2,.string s2,n2,l2];have HR:=hid hr;have HB:=hid hb0;obtain⟨p0,p1,p2,p3,p4,p5⟩:=six_box hp;obtain⟨q0,q1,q2,q3,q4,q5⟩:=six_box hq;have cJ:=join_c k1 b1 i1 s1 n1 l1 k2 b2 i2 s2 n2 l2 (hi1.below hb0) (hi2.below hb0) (ht.below hb0);generalize (bnd (txt c1) fun x=>bnd (txt c2) fun y=>if 4096<x.size+y.size then (.error 1107:Except Nat ByteArray) else .ok (x ++ y))=U at *
 clear hp hq hb0 hr hi1 hi2 ht;go_enter func68,ntmps68;go_upto_if 35 with fail
 refine wp_cond_true (by rfl) ?_;refine wp_exit ?_;repeat (first | (with_reducible refine ex_then ?_) | (with_reducible refine ex_skip (by decide) ?_))
 refine ex_hit ?_;refine ex_norm ?_;apply_assumption
 refine wp_mono (Q:=Out ?outB) ?outM (out_mono ?outR ?outP)
 case outR=>intro a w h;(repeat (first | (with_reducible refine rt_then ?_) | (with_reducible refine rt_blk ?_)));exact h
 case outP=>intro c a w h;(repeat (first | (with_reducible refine pn_then ?_) | (with_reducible refine pn_blk ?_)));exact h
 try simp only [hW0]
 go_wp2_with fail
 try rw[hW0]
 refine cJ.mono ?_;intro e W1 hA;clear cJ;cases U with
 | error c=>
  obtain⟨rfl,hb1⟩:=hA;exact⟨rfl,rfl,HB.out.trans (hb1.mono HB.out.size)⟩
 | ok y=>
  obtain⟨rfl,hb1⟩:=hA;have hr:=(hb1.block (w.heap.size+2) (by omega)).trans HR.out;have HB3:=hid (HB.out.trans (hb1.mono HB.out.size));clear hb1 HB HR p0 p1 p2 p3 p4 p5 q0 q1 q2 q3 q4 q5;obtain⟨r0,r1,r2,r3,r4,r5⟩:=six_box hr;obtain⟨rf0,rf1,rf2,rf3,rf4,rf5⟩:=Base.frz6 hr;go_wp2_with fail
  obtain⟨W9,hW9⟩:=stc6 W1 (w.heap.size+2) (.int .i64 4) (.bool false) (.int .i64 0) (.string y) (.slice none 0 0) (.slice none 0 0);rw[hW9];obtain⟨q1,q2,q3,q4⟩:=set6 _ _ _ _ _ _ hr hW9;refine out_ret (results_cell_row rfl _ W9 (w.heap.size+2) 26 _ (0,0) _ rfl q1 underlying26 rfl (by kernel_rfl)) rfl ?_;exact⟨rfl,q4 _ _ (by omega) HB3.out⟩
theorem pair17:PairOk 17:=by
 intro K m w va vb a b hK hT hva hvb hwf;have hz1:=fun x=>@txt_le _ _ _ _ hva.plain x
 have hz2:=fun x=>@txt_le _ _ _ _ hvb.plain x
 have h1:=hva.plain
 have h2:=hvb.plain
 obtain⟨an,ln,cn,al,ll,cl,rfl⟩:=in_shape hva;obtain⟨bn,mn,dn,bl,ml,dl,rfl⟩:=in_shape hvb;refine (pair_cat _ _ _ _ _ _ _ _ _ _ _ _ h1 h2 hT).mono ?_;intro e w' h;have e1:pr2 17 a b=cat a b:=rfl;rw[e1];unfold cat;generalize txt a=T1 at *
 generalize txt b=T2 at *
 cases T1 with
 | error n=>exact⟨h.2,h.1⟩
 | ok x=>
  cases T2 with
  | error n=>exact⟨h.2,h.1⟩
  | ok y=>
   have hx:=hz1 x rfl;have hy:=hz2 y rfl;by_cases hl:4096<x.size+y.size
   ·have e2:(bnd (.ok x:Except Nat ByteArray) fun x=>bnd (.ok y:Except Nat ByteArray) fun y=>if 4096<x.size+y.size then (.error 1107:Except Nat ByteArray) else .ok (x ++ y))=.error 1107:=if_pos hl
    have e3:(bnd (.ok x:Except Nat ByteArray) fun x=>bnd (.ok y:Except Nat ByteArray) fun y=>if 4096<x.size+y.size then (.error 1107:Ans) else .ok (strC (x ++ y)))=.error 1107:=if_pos hl;rw[e2] at h;rw[e3];exact⟨h.2,h.1⟩
   ·have e2:(bnd (.ok x:Except Nat ByteArray) fun x=>bnd (.ok y:Except Nat ByteArray) fun y=>if 4096<x.size+y.size then (.error 1107:Except Nat ByteArray) else .ok (x ++ y))=.ok (x ++ y):=if_neg hl
    have e3:(bnd (.ok x:Except Nat ByteArray) fun x=>bnd (.ok y:Except Nat ByteArray) fun y=>if 4096<x.size+y.size then (.error 1107:Ans) else .ok (strC (x ++ y)))=.ok (strC (x ++ y)):=if_neg hl;rw[e2] at h;rw[e3];exact⟨h.2,_,h.1,in_str _ w' m (by rw[ByteArray.size_append];omega)⟩
end Go.Proofs.YtdolgmmldncfkaaGreatDoor.VPk
namespace Go.Proofs.YtdolgmmldncfkaaGreatDoor.JSe
open Tak
open Go.RowKit Base EPure JPure VSm VIn VRs JVr
open VPure hiding evL
def Kd (K m:Nat) (w:World) (Pv:Value) (ρ:Int->Option C) (a:Option Addr) (j:Nat) (x:Ex):Prop:=∃ g o0 y0 y1 y2 y3 y4 y5,a=some ⟨g,o0,none⟩/\g<w.heap.size/\∀ W,Below w.heap.size w W ->
 (W.cell? ⟨g,o0+4*j,none⟩=some (.int .i64 y0)/\W.cell? ⟨g,o0+(4*j+1),none⟩=some (.int .i64 y1)/\W.cell? ⟨g,o0+(4*j+2),none⟩=some (.string y2)/\W.cell? ⟨g,o0+(4*j+3),none⟩=some (.slice y3 y4 y5)) /\
 Calls prog 48 #[.agg #[clo Pv],xv y0 y1 y2 (.slice y3 y4 y5)] W fun e w'=>VR K m W (ev ρ x) e w'
theorem Kd.below {K m:Nat} {w w':World} {Pv:Value} {ρ:Int->Option C} {a:Option Addr} {j:Nat} {x:Ex} (h:Kd K m w Pv ρ a j x) (hb:Below w.heap.size w w'):Kd K m w' Pv ρ a j x:=by
 obtain⟨g,o0,y0,y1,y2,y3,y4,y5,h1,h2,h3⟩:=h;exact⟨g,o0,y0,y1,y2,y3,y4,y5,h1,Nat.lt_of_lt_of_le h2 hb.size,fun W hW=>h3 W (hb.trans (hW.mono hb.size))⟩
theorem second_c {Kk m:Nat} {w:World} {Pv:Value} {ρ:Int->Option C} (hKk:Kk<=w.heap.size) (o i:Int) (s:ByteArray) {a:Option Addr} {cap:Nat} {l:List Ex} (hl:l.length<=cap) (hc:cap<=9223372036854775807) (h2:2<=l.length) (n7:o≠7) (n9:o≠9) (n10:o≠10) (n11:o≠11) {x:Ex} (hk1:Kd Kk m w Pv ρ a 1 x) :
  Calls prog 69 #[.agg #[clo Pv],xv o i s (.slice a l.length cap)] w fun e w'=>VR Kk m w (ev ρ x) e w':=by
 obtain⟨g,o0,y0,y1,y2,y3,y4,y5,rfl,hg,hk1⟩:=hk1;simp only [Nat.reduceMul, Nat.reduceAdd] at hk1;obtain⟨W0,hW0,hs0,hb0,hk,hx,hr⟩:=three w #[clo Pv] #[.int .i64 o,.int .i64 i,.string s,(.slice (some ⟨g,o0,none⟩) l.length cap)] 97 44;have kc:W0.cell? ⟨w.heap.size,0,none⟩=some (clo Pv):=by simp [World.cell?, hk]
 obtain⟨x0,x1,x2,x3⟩:=XBase.four_box hx;have HK1:=hid hk1;obtain⟨⟨m0,m1,m2,m3⟩,cV⟩:=hk1 W0.drew (bel_d hb0 (Below.refl _ _));have HR:=hid hr;have HKx:=hid hk;have HXx:=hid hx;have HB:=hid hb0;have hsD:W0.drew.heap.size=w.heap.size+3:=by simp [hs0]
 have d7:(o == 7)=false:=by simp [n7]
 have d9:(o == 9)=false:=by simp [n9]
 have d10:(o == 10)=false:=by simp [n10]
 have d11:(o == 11)=false:=by simp [n11]
 have b1:(1:Int)<(l.length:Int):=by omega
 have b2:decide ((1:Int)<(l.length:Int))=true:=decide_eq_true b1;generalize ev ρ x=U at *
 clear hk hx hr hb0 hk1 n7 n9 n10 n11;go_enter func69,ntmps69;go_wp2_with fail
 try rw[hW0]
 refine wp_region_held_drew (S:=fun w'=>w'.cell? ⟨w.heap.size,0,none⟩=some (clo Pv)/\(w'.cell? ⟨w.heap.size+1,0,none⟩=some (.int .i64 o)/\w'.cell? ⟨w.heap.size+1,1,none⟩=some (.int .i64 i)/\w'.cell? ⟨w.heap.size+1,2,none⟩=some (.string s)/\w'.cell? ⟨w.heap.size+1,3,none⟩=some (.slice (some ⟨g,o0,none⟩) l.length cap))/\(w'.cell? ⟨g,o0+4,none⟩=some (.int .i64 y0)/\w'.cell? ⟨g,o0+5,none⟩=some (.int .i64 y1)/\w'.cell? ⟨g,o0+6,none⟩=some (.string y2)/\w'.cell? ⟨g,o0+7,none⟩=some (.slice y3 y4 y5))) (by kernel_rfl) (by first | assumption | go_keep) (fun hHeld=>?_);refine tkH 0 rfl ?_;try simp only [ptH]
 refine tkH 1 rfl ?_;try simp only [ptH]
 refine tkH 2 rfl ?_;try simp only [ptH]
 refine tkH 3 rfl ?_;try simp only [ptH]
 refine tkH 4 rfl ?_;try simp only [ptH]
 refine rdH [5] ?_;refine alH rfl fun K hK=>?_
 go_simp
 refine cV.mono ?_;rintro e W1 ⟨hb1,hA⟩;cases U with
 | error c=>
  obtain rfl:=hA;exact⟨rfl,bel_d HB.out hb1,rfl⟩
 | ok c=>
  obtain⟨u,rfl,hin⟩:=hA;obtain⟨an,ln,cn,al,ll,cl,rfl⟩:=in_shape hin
  have kc1:W1.cell? ⟨w.heap.size,0,none⟩=some (clo Pv):=by have:=(hb1.block w.heap.size (by rw[hsD];omega)).trans HKx.out;simp [World.cell?, this]
  obtain⟨v0,v1,v2,v3⟩:=XBase.four_box ((hb1.block (w.heap.size+1) (by rw[hsD];omega)).trans HXx.out);obtain⟨⟨w0,w1,w2,w3⟩,-⟩:=HK1.out W1 (bel_d HB.out hb1);have hr:=(hb1.block (w.heap.size+2) (by rw[hsD];omega)).trans HR.out;obtain⟨r0,r1,r2,r3,r4,r5⟩:=six_box hr;obtain⟨rf0,rf1,rf2,rf3,rf4,rf5⟩:=Base.frz6 hr;have HB1:=hid (bel_d HB.out hb1);have HR1:=hid hr;have HI:=hid hin
  generalize c.k=ck at *
  generalize c.b=cb at *
  generalize c.i=ci at *
  generalize c.s=cs at *
  clear hb1 hin cV hr;go_wp2_with fail
  refine hK.out _ _ (by first | assumption | go_keep) (fun hHeld=>?_);clear hK K;try simp only [ptH]
  obtain⟨W9,hW9⟩:=stc6 W1 (w.heap.size+2) (.int .i64 ck) (.bool cb) (.int .i64 ci) (.string cs) (.slice an ln cn) (.slice al ll cl);obtain⟨q1,q2,q3,q4⟩:=set6 _ _ _ _ _ _ HR1.out hW9;have kx:∀ (B j:Nat) (u:Value),B≠w.heap.size+2->W1.cell? ⟨B,j,none⟩=some u->W9.cell? ⟨B,j,none⟩=some u:=fun B j u hne h=>(World.cell?_of_block (w:=W1) (q2 _ hne)).trans h
  have e0:=kx _ _ _ (by omega) kc1;have e1:=kx _ _ _ (by omega) v0;have e2:=kx _ _ _ (by omega) v1;have e3:=kx _ _ _ (by omega) v2;have e4:=kx _ _ _ (by omega) v3;have e5:=kx _ _ _ (by omega) w0;have e6:=kx _ _ _ (by omega) w1;have e7:=kx _ _ _ (by omega) w2;have e8:=kx _ _ _ (by omega) w3;clear kx;refine rdH [6] ?_;refine alH rfl fun K hK=>?_
  go_simp
  try rw[hW9]
  refine hK.out _ _ (by first | assumption | go_keep) (fun hHeld=>?_);clear hK K;try simp only [ptH]
  refine dnH ?_;go_wp2_with fail
  refine bodyPost_ret (results_cell_row rfl _ W9 (w.heap.size+2) 26 _ (0,0) _ rfl q1 underlying26 rfl (by kernel_rfl)) rfl ?_;exact⟨q4 _ _ (by omega) HB1.out,_,rfl,in_low HI.out (q4 _ _ (by omega) (Below.refl _ _))⟩
end Go.Proofs.YtdolgmmldncfkaaGreatDoor.JSe
namespace Go.Proofs.YtdolgmmldncfkaaGreatDoor.JLo
open Tak
open Go.RowKit Base EPure JPure VSm VIn VRs JVr JSe
open VPure hiding evL
theorem Kd.two {K m:Nat} {w:World} {Pv:Value} {ρ:Int->Option C} {g o0:Nat} {j:Nat} {x:Ex} (h:Kd K m w Pv ρ (some ⟨g,o0,none⟩) j x):∃ y0 y1 y2 y3 y4 y5,∀ W,Below w.heap.size w W ->
 (W.cell? ⟨g,o0+4*j,none⟩=some (.int .i64 y0)/\W.cell? ⟨g,o0+(4*j+1),none⟩=some (.int .i64 y1)/\W.cell? ⟨g,o0+(4*j+2),none⟩=some (.string y2)/\W.cell? ⟨g,o0+(4*j+3),none⟩=some (.slice y3 y4 y5)) /\
 Calls prog 48 #[.agg #[clo Pv],xv y0 y1 y2 (.slice y3 y4 y5)] W fun e w'=>VR K m W (ev ρ x) e w':=by
 obtain⟨g',o',y0,y1,y2,y3,y4,y5,e,-,h3⟩:=h;injection e with e
 injection e with e1 e2
 subst e1 e2;exact⟨y0,y1,y2,y3,y4,y5,h3⟩
theorem logic_c {Kk m:Nat} {w:World} {Pv:Value} {ρ:Int->Option C} (hKk:Kk<=w.heap.size) (o i:Int) (s:ByteArray) {a:Option Addr} {cap:Nat} {l:List Ex} (hl:l.length<=cap) (hc:cap<=9223372036854775807) (h2:2<=l.length) (ho:(o == 30)=decide (o=30)) {x y:Ex} (hk0:Kd Kk (m+1) w Pv ρ a 0 x) (hk1:Kd Kk (m+1) w Pv ρ a 1 y) :
  Calls prog 66 #[.agg #[clo Pv],xv o i s (.slice a l.length cap)] w fun e w'=>VR Kk (m+1) w (bnd (bnd (ev ρ x) isT) fun b=>if b=decide (o=30) then .ok (booC (decide (o=30))) else bnd (bnd (ev ρ y) isT) fun c=>.ok (booC c)) e w':=by
 obtain⟨g,o0,y0,y1,y2,y3,y4,y5,rfl,hg,hk0⟩:=hk0;obtain⟨z0,z1,z2,z3,z4,z5,hk1⟩:=Kd.two hk1;simp only [Nat.reduceMul, Nat.reduceAdd, Nat.mul_zero, Nat.zero_add, Nat.add_zero] at hk0 hk1;obtain⟨W0,hW0,hs0,hb0,hk,hx,hr⟩:=three w #[clo Pv] #[.int .i64 o,.int .i64 i,.string s,(.slice (some ⟨g,o0,none⟩) l.length cap)] 97 44;have kc:W0.cell? ⟨w.heap.size,0,none⟩=some (clo Pv):=by simp [World.cell?, hk]
 obtain⟨x0,x1,x2,x3⟩:=XBase.four_box hx;have HK0:=hid hk0;have HK1:=hid hk1;have HBW0:=hid hb0;have kk:=hk;have xx:=hx;have rr:=hr;have HKx:=hid kk;have HXx:=hid xx;have HR:=hid rr;obtain⟨⟨m0,m1,m2,m3⟩,cV⟩:=hk0 W0.drew (bel_d hb0 (Below.refl _ _));have hsD:W0.drew.heap.size=w.heap.size+3:=by simp [hs0]
 have b0:(0:Int)<(l.length:Int):=by omega
 have b1:(1:Int)<(l.length:Int):=by omega
 have b2:decide ((0:Int)<(l.length:Int))=true:=decide_eq_true b0;have b3:decide ((1:Int)<(l.length:Int))=true:=decide_eq_true b1;obtain⟨D,hD⟩ : ∃ D,decide (o=30)=D:=⟨_,rfl⟩;rw[hD] at ho ⊢;obtain⟨U,hU⟩ : ∃ U,(bnd (bnd (ev ρ x) isT) fun b=>if b=D then .ok (booC D) else bnd (bnd (ev ρ y) isT) fun c=>.ok (booC c))=U:=⟨_,rfl⟩;rw[hU];generalize ev ρ x=X at *
 generalize ev ρ y=Y at *
 generalize l.length=n at *
 have b4:0<n:=by omega
 have b5:1<n:=by omega
 have b6 : ¬ n=0:=by omega
 clear hk hx hr hb0 hk0 hk1 hD kk xx rr;go_enter func66,ntmps66;go_wp2_with fail
 try rw[hW0]
 refine wp_region_held_drew (S:=fun w'=>w'.cell? ⟨w.heap.size,0,none⟩=some (clo Pv)/\(w'.cell? ⟨w.heap.size+1,0,none⟩=some (.int .i64 o)/\w'.cell? ⟨w.heap.size+1,1,none⟩=some (.int .i64 i)/\w'.cell? ⟨w.heap.size+1,2,none⟩=some (.string s)/\w'.cell? ⟨w.heap.size+1,3,none⟩=some (.slice (some ⟨g,o0,none⟩) n cap))/\(w'.cell? ⟨g,o0,none⟩=some (.int .i64 y0)/\w'.cell? ⟨g,o0+1,none⟩=some (.int .i64 y1)/\w'.cell? ⟨g,o0+2,none⟩=some (.string y2)/\w'.cell? ⟨g,o0+3,none⟩=some (.slice y3 y4 y5))) (by kernel_rfl) (by first | assumption | go_keep) (fun hHeld=>?_);refine tkH 0 rfl ?_;try simp only [ptH]
 refine tkH 1 rfl ?_;try simp only [ptH]
 refine tkH 2 rfl ?_;try simp only [ptH]
 refine tkH 3 rfl ?_;try simp only [ptH]
 refine tkH 4 rfl ?_;try simp only [ptH]
 refine tkH 7 rfl ?_;try simp only [ptH]
 refine tkH 8 rfl ?_;try simp only [ptH]
 refine tkH 9 rfl ?_;try simp only [ptH]
 refine rdH [5] ?_;refine alH rfl fun K hK=>?_
 go_simp
 refine cV.mono ?_;rintro e W1 ⟨hb1,hA⟩;cases X with
 | error c=>
  obtain rfl:=hA;obtain rfl:=hU;exact⟨rfl,bel_d HBW0.out hb1,rfl⟩
 | ok c=>
  obtain⟨u,rfl,hin⟩:=hA;obtain⟨an,ln,cn,al,ll,cl,rfl⟩:=in_shape hin
  have kk:=(hb1.block w.heap.size (by rw[hsD];omega)).trans HKx.out;have xx:=(hb1.block (w.heap.size+1) (by rw[hsD];omega)).trans HXx.out;have rr:=(hb1.block (w.heap.size+2) (by rw[hsD];omega)).trans HR.out;have HBW1:=hid (bel_d HBW0.out hb1);have hs1:w.heap.size+3<=W1.heap.size:=by have:=hb1.size;rw[hsD] at this;exact this
  have uk:W1.cell? ⟨w.heap.size,0,none⟩=some (clo Pv):=by simp [World.cell?, kk]
  obtain⟨u0,u1,u2,u3⟩:=XBase.four_box xx;obtain⟨⟨u4,u5,u6,u7⟩,-⟩:=HK0.out W1 HBW1.out;have HKx1:=hid kk;have HXx1:=hid xx;have HR1:=hid rr;have cT:=isTrue_c c.k c.b c.i c.s (.slice an ln cn) (.slice al ll cl) W1;clear kk xx rr hb1 hin cV;go_wp2_with fail
  refine hK.out _ _ (by first | assumption | go_keep) (fun hHeld=>?_);clear hK K;try simp only [ptH]
  refine rdH [6] ?_;refine alH rfl fun K hK=>?_
  go_simp
  refine cT.mono ?_;intro e W2 hA;by_cases hck:c.k=2
  ·rw[if_pos hck] at hA
   obtain⟨rfl,hb2⟩:=hA;have e1:isT c=.ok c.b:=if_pos hck;have e2:bnd (.ok c:Ans) isT=.ok c.b:=e1;rw[e2] at hU;have kk:=(hb2.block w.heap.size (by omega)).trans HKx1.out;have xx:=(hb2.block (w.heap.size+1) (by omega)).trans HXx1.out;have rr:=(hb2.block (w.heap.size+2) (by omega)).trans HR1.out;have HBW2:=hid (HBW1.out.trans (hb2.mono HBW1.out.size));have hs2:=Nat.le_trans hs1 hb2.size;have tk:W2.cell? ⟨w.heap.size,0,none⟩=some (clo Pv):=by simp [World.cell?, kk]
   obtain⟨t0,t1,t2,t3⟩:=XBase.four_box xx;obtain⟨⟨t4,t5,t6,t7⟩,-⟩:=HK0.out W2 HBW2.out;have HKx2:=hid kk;have HXx2:=hid xx;have HR2:=hid rr;generalize c.b=cb at *
   clear hb2 cT e1 e2 hck kk xx rr;go_wp2_with fail
   refine hK.out _ _ (by first | assumption | go_keep) (fun hHeld=>?_);clear hK K;try simp only [ptH]
   refine tkH 10 rfl ?_;try simp only [ptH]
   refine dnH ?_;clear hHeld;by_cases hbd:cb=D
   ·subst hbd
    have hU:(if cb=cb then .ok (booC cb) else bnd (bnd Y isT) fun c=>.ok (booC c))=U:=hU;rw[if_pos rfl] at hU;obtain rfl:=hU;have cR:=truth_c cb W2;have dq:(cb == cb)=true:=by simp
    try rw[dq]
    clear dq HK0 HK1;go_wp2_with fail
    refine cR.mono ?_;rintro e W3 ⟨rfl,hb3⟩;have hr:=(hb3.block (w.heap.size+2) (by omega)).trans HR2.out;have HB3:=hid (HBW2.out.trans (hb3.mono HBW2.out.size));clear hb3 cR;obtain⟨r0,r1,r2,r3,r4,r5⟩:=six_box hr;obtain⟨rf0,rf1,rf2,rf3,rf4,rf5⟩:=Base.frz6 hr;go_wp2_with fail
    obtain⟨W9,hW9⟩:=stc6 W3 (w.heap.size+2) (.int .i64 2) (.bool cb) (.int .i64 0) (.string ⟨#[]⟩) (.slice none 0 0) (.slice none 0 0);rw[hW9];obtain⟨q1,q2,q3,q4⟩:=set6 _ _ _ _ _ _ hr hW9;refine bodyPost_ret (results_cell_row rfl _ W9 (w.heap.size+2) 26 _ (0,0) _ rfl q1 underlying26 rfl (by kernel_rfl)) rfl ?_;exact⟨q4 _ _ (by omega) HB3.out,_,rfl,in_boo _ _ m cb⟩
   ·have hU:(if cb=D then .ok (booC D) else bnd (bnd Y isT) fun c=>.ok (booC c))=U:=hU
    rw[if_neg hbd] at hU;have dq:(cb == D)=false:=by simp [hbd]
    try rw[dq]
    obtain⟨⟨n4,n5,n6,n7⟩,cY⟩:=HK1.out W2.drew (bel_d HBW2.out (Below.refl _ _));have hsE:w.heap.size+3<=W2.drew.heap.size:=by simpa using hs2
    clear hbd;go_wp2_with fail
    refine wp_region_held_drew (S:=fun w'=>w'.cell? ⟨w.heap.size,0,none⟩=some (clo Pv)/\(w'.cell? ⟨w.heap.size+1,0,none⟩=some (.int .i64 o)/\w'.cell? ⟨w.heap.size+1,1,none⟩=some (.int .i64 i)/\w'.cell? ⟨w.heap.size+1,2,none⟩=some (.string s)/\w'.cell? ⟨w.heap.size+1,3,none⟩=some (.slice (some ⟨g,o0,none⟩) n cap))/\(w'.cell? ⟨g,o0+4,none⟩=some (.int .i64 z0)/\w'.cell? ⟨g,o0+5,none⟩=some (.int .i64 z1)/\w'.cell? ⟨g,o0+6,none⟩=some (.string z2)/\w'.cell? ⟨g,o0+7,none⟩=some (.slice z3 z4 z5))) (by kernel_rfl) (by first | assumption | go_keep) (fun hHeld=>?_);refine tkH 0 rfl ?_;try simp only [ptH]
    refine tkH 1 rfl ?_;try simp only [ptH]
    refine tkH 2 rfl ?_;try simp only [ptH]
    refine tkH 3 rfl ?_;try simp only [ptH]
    refine tkH 4 rfl ?_;try simp only [ptH]
    refine rdH [5] ?_;refine alH rfl fun K hK=>?_
    go_simp
    refine cY.mono ?_;rintro e W3 ⟨hb3,hA⟩;cases Y with
    | error c2=>
     obtain rfl:=hA;obtain rfl:=hU;exact⟨rfl,bel_d HBW2.out hb3,rfl⟩
    | ok c2=>
     obtain⟨u2,rfl,hin⟩:=hA;obtain⟨an,ln,cn,al,ll,cl,rfl⟩:=in_shape hin
     have kk:=(hb3.block w.heap.size (by omega)).trans HKx2.out;have xx:=(hb3.block (w.heap.size+1) (by omega)).trans HXx2.out;have rr:=(hb3.block (w.heap.size+2) (by omega)).trans HR2.out;have HBW3:=hid (bel_d HBW2.out hb3);have hs3:=Nat.le_trans hsE hb3.size;have rk:W3.cell? ⟨w.heap.size,0,none⟩=some (clo Pv):=by simp [World.cell?, kk]
     obtain⟨r0,r1,r2,r3⟩:=XBase.four_box xx;obtain⟨⟨r4,r5,r6,r7⟩,-⟩:=HK1.out W3 HBW3.out;have HKx3:=hid kk;have HXx3:=hid xx;have HR3:=hid rr;have cT:=isTrue_c c2.k c2.b c2.i c2.s (.slice an ln cn) (.slice al ll cl) W3;clear kk xx rr hb3 hin cY;go_wp2_with fail
     refine hK.out _ _ (by first | assumption | go_keep) (fun hHeld=>?_);clear hK K;try simp only [ptH]
     refine rdH [6] ?_;refine alH rfl fun K hK=>?_
     go_simp
     refine cT.mono ?_;intro e W4 hA;by_cases hck:c2.k=2
     ·rw[if_pos hck] at hA
      obtain⟨rfl,hb4⟩:=hA;have e1:isT c2=.ok c2.b:=if_pos hck;have e2:bnd (.ok c2:Ans) isT=.ok c2.b:=e1;rw[e2] at hU;obtain rfl:=hU;have kk:=(hb4.block w.heap.size (by omega)).trans HKx3.out;have xx:=(hb4.block (w.heap.size+1) (by omega)).trans HXx3.out;have rr:=(hb4.block (w.heap.size+2) (by omega)).trans HR3.out;have HBW4:=hid (HBW3.out.trans (hb4.mono HBW3.out.size));have hs4:=Nat.le_trans hs3 hb4.size;have qk:W4.cell? ⟨w.heap.size,0,none⟩=some (clo Pv):=by simp [World.cell?, kk]
      obtain⟨q0,q1,q2,q3⟩:=XBase.four_box xx;obtain⟨⟨q4,q5,q6,q7⟩,-⟩:=HK1.out W4 HBW4.out;have HKx4:=hid kk;have HXx4:=hid xx;have HR4:=hid rr;obtain⟨cb2,hcb2⟩ : ∃ t,c2.b=t:=⟨_,rfl⟩;rw[hcb2];have HCB:=hid hcb2;have cR:=truth_c cb2 W4;clear hb4 cT e1 e2 hck kk xx rr hcb2;go_wp2_with fail
      refine hK.out _ _ (by first | assumption | go_keep) (fun hHeld=>?_);clear hK K;try simp only [ptH]
      refine rdH [7] ?_;refine alH rfl fun K hK=>?_
      go_simp
      refine cR.mono ?_;rintro e W5 ⟨rfl,hb5⟩;have kk:=(hb5.block w.heap.size (by omega)).trans HKx4.out;have xx:=(hb5.block (w.heap.size+1) (by omega)).trans HXx4.out;have rr:=(hb5.block (w.heap.size+2) (by omega)).trans HR4.out;have HBW5:=hid (HBW4.out.trans (hb5.mono HBW4.out.size));have hs5:=Nat.le_trans hs4 hb5.size;have pk:W5.cell? ⟨w.heap.size,0,none⟩=some (clo Pv):=by simp [World.cell?, kk]
      obtain⟨p0,p1,p2,p3⟩:=XBase.four_box xx;obtain⟨⟨p4,p5,p6,p7⟩,-⟩:=HK1.out W5 HBW5.out;have hr:=rr;obtain⟨a0,a1,a2,a3,a4,a5⟩:=six_box hr;obtain⟨af0,af1,af2,af3,af4,af5⟩:=Base.frz6 hr;have HR5:=hid rr;clear hb5 cR kk xx rr hr;go_wp2_with fail
      refine hK.out _ _ (by first | assumption | go_keep) (fun hHeld=>?_);clear hK K;try simp only [ptH]
      obtain⟨W9,hW9⟩:=stc6 W5 (w.heap.size+2) (.int .i64 2) (.bool cb2) (.int .i64 0) (.string ⟨#[]⟩) (.slice none 0 0) (.slice none 0 0);obtain⟨g1,g2,g3,g4⟩:=set6 _ _ _ _ _ _ HR5.out hW9;have kx:∀ (B j:Nat) (u:Value),B≠w.heap.size+2->W5.cell? ⟨B,j,none⟩=some u->W9.cell? ⟨B,j,none⟩=some u:=fun B j u hne h=>(World.cell?_of_block (w:=W5) (g2 _ hne)).trans h
      have f0:=kx _ _ _ (by omega) pk;have f1:=kx _ _ _ (by omega) p0;have f2:=kx _ _ _ (by omega) p1;have f3:=kx _ _ _ (by omega) p2;have f4:=kx _ _ _ (by omega) p3;have f5:=kx _ _ _ (by omega) p4;have f6:=kx _ _ _ (by omega) p5;have f7:=kx _ _ _ (by omega) p6;have f8:=kx _ _ _ (by omega) p7;clear kx;refine rdH [8] ?_;refine alH rfl fun K hK=>?_
      go_simp
      try rw[hW9]
      refine hK.out _ _ (by first | assumption | go_keep) (fun hHeld=>?_);clear hK K;try simp only [ptH]
      refine dnH ?_;go_wp2_with fail
      refine bodyPost_ret (results_cell_row rfl _ W9 (w.heap.size+2) 26 _ (0,0) _ rfl g1 underlying26 rfl (by kernel_rfl)) rfl ?_;exact⟨g4 _ _ (by omega) HBW5.out,_,rfl,by rw[HCB.out];exact in_boo _ _ m cb2⟩
     ·rw[if_neg hck] at hA
      obtain⟨rfl,hb4⟩:=hA;have e1:isT c2=.error 1101:=if_neg hck;have e2:bnd (.ok c2:Ans) isT=.error 1101:=e1;rw[e2] at hU;obtain rfl:=hU;exact⟨rfl,HBW3.out.trans (hb4.mono HBW3.out.size),rfl⟩
  ·rw[if_neg hck] at hA
   obtain⟨rfl,hb2⟩:=hA;have e1:isT c=.error 1101:=if_neg hck;have e2:bnd (.ok c:Ans) isT=.error 1101:=e1;rw[e2] at hU;obtain rfl:=hU;exact⟨rfl,HBW1.out.trans (hb2.mono HBW1.out.size),rfl⟩
end Go.Proofs.YtdolgmmldncfkaaGreatDoor.JLo

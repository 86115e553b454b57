import Derived.Test.YtdolgmmldncfkaaGreatDoorPJ09
import Derived.Test.YtdolgmmldncfkaaGreatDoorPJ16
open Go.Proofs.Tryz
set_option linter.unusedVariables false
set_option maxRecDepth 20000
set_option maxHeartbeats 3200000
namespace Go.Proofs.YtdolgmmldncfkaaGreatDoor.GPl
open Go.RowKit Base VSm VJn VRs JVr
open VPure hiding evL
theorem must_t (w:World):Calls prog 148 #[.bool true] w fun e w'=>(∃ v,e=.returned v)/\w'=w:=by
 go_enter func148,ntmps148;go_wp2_with fail
 go_end0
 exact⟨⟨_,rfl⟩,rfl⟩
theorem must_f (w:World):Calls prog 148 #[.bool false] w fun e w'=>e=.panicked (pkE 1101)/\w'=w:=by
 unfold pkE;go_enter func148,ntmps148;go_wp2_with fail
 exact⟨rfl,rfl,rfl⟩
theorem textOf_c {m:Nat} {v:Value} {c:C} {w:World} (h:Base.In false All w m v c) (ht:Tb w) :
  Calls prog 110 #[v] w fun e w'=>An w w' e Value.string (txt c):=by
 have hin:=h;obtain⟨m',nv,lv,hm,rfl,-⟩:=h.shape;obtain⟨W0,hW0⟩ : ∃ W0,w.alloc (.cells #[.int .i64 c.k,.bool c.b,.int .i64 c.i,.string c.s,nv,lv] 26)=W0:=⟨_,rfl⟩;have hb0:=alB hW0;have hp:=alG hW0;obtain⟨p0,p1,p2,p3,p4,p5⟩:=six_box hp;have cT:=TextKey.text_c (hin.below hb0) (ht W0 hb0);have HB:=hid hb0;unfold txt;generalize TextKey.te c=te at *
 generalize TextKey.tx c=tx at *
 generalize c.k=k at *
 generalize c.b=b at *
 generalize c.i=i at *
 generalize c.s=s at *
 clear h hin hb0 hp ht hm;by_cases he:te=0
 ·subst he
  rw[if_pos rfl];go_enter func110,ntmps110;go_wp2_with fail
  try rw[hW0]
  refine cT.mono ?_;rintro e W1 ⟨rfl,hb1⟩;have HB1:=hid (HB.out.trans (hb1.mono HB.out.size));have c1:=must_t W1;clear hb1 cT HB p0 p1 p2 p3 p4 p5 hW0;go_wp2_with fail
  refine c1.mono ?_;rintro e W2 ⟨⟨v2,rfl⟩,rfl⟩;go_wp2_with fail
  go_ret
  exact⟨rfl,HB1.out⟩
 ·rw[if_neg he]
  have d:(te == 0)=false:=by simp [he]
  clear he;go_enter func110,ntmps110;go_wp2_with fail
  try rw[hW0]
  refine cT.mono ?_;rintro e W1 ⟨rfl,hb1⟩;have HB1:=hid (HB.out.trans (hb1.mono HB.out.size));have c1:=must_f W1;clear hb1 cT HB p0 p1 p2 p3 p4 p5 hW0;go_wp2_with fail
  refine c1.mono ?_;rintro e W2 ⟨rfl,rfl⟩;exact⟨rfl,rfl,HB1.out⟩
def Sk (K m:Nat) (w:World) (Pv:Value) (L:List C):Prop:=
 ∃ a cap,Pv=.slice a L.length cap/\L.length<=100000/\L.length<=cap/\cap<=9223372036854775807/\∀ j (h:j<L.length),∃ g u,a=some ⟨g,0,none⟩/\Six w g (j*6) u/\Base.In false (fun b=>b<K) w m u L[j]
theorem Sk.below {K m:Nat} {w w':World} {Pv:Value} {L:List C} (h:Sk K m w Pv L) (hb:Below w.heap.size w w'):Sk K m w' Pv L:=by
 obtain⟨a,cap,h1,h2,h3,h4,h5⟩:=h;refine⟨a,cap,h1,h2,h3,h4,fun j hj=>?_⟩;obtain⟨g,u,e,hu,hi⟩:=h5 j hj;exact⟨g,u,e,six_below hu hb,hi.below hb⟩
def rh (L:List C) (i:Int):Option C:=if 0<=i then L[i.toNat]? else none
theorem at_c {K m:Nat} {w:World} {Pv:Value} {L:List C} (h:Sk K m w Pv L) (hK:K<=w.heap.size):Bd K m w Pv (rh L):=by
 intro W hW o i s lv hs;have hKW:=Nat.le_trans hK hW.size;obtain⟨a,cap,rfl,hl,hlc,hcm,hel⟩:=h.below hW;obtain⟨W0,hW0⟩ : ∃ W0,(W.alloc (.cells #[.int .i64 o,.int .i64 i,.string s,lv] 44)).alloc (.cells #[.int .i64 0,.bool false,.int .i64 0,.string ⟨#[]⟩,.slice none 0 0,.slice none 0 0] 26)=W0:=⟨_,rfl⟩;have hb0:Below W.heap.size W W0:=by rw[<- hW0];exact ((Below.refl _ W).alloc (Nat.le_refl _) _).alloc (by simp) _
 have hs0:W0.heap.size=W.heap.size+2:=by rw[<- hW0];simp
 have hx0:W0.heap[W.heap.size]? = some (.cells #[.int .i64 o,.int .i64 i,.string s,lv] 44 (0,0)):=by rw[<- hW0,Below.heap_alloc _ _ _ (by simp),heap_alloc_new]
 have hx1:W0.heap[W.heap.size+1]? = some (.cells #[.int .i64 0,.bool false,.int .i64 0,.string ⟨#[]⟩,.slice none 0 0,.slice none 0 0] 26 (0,0)):=by
  have:=heap_alloc_new (W.alloc (.cells #[.int .i64 o,.int .i64 i,.string s,lv] 44)) (.cells #[.int .i64 0,.bool false,.int .i64 0,.string ⟨#[]⟩,.slice none 0 0,.slice none 0 0] 26);rwa [hW0,World.size_alloc] at this
 obtain⟨x0,x1,x2,x3⟩:=XBase.four_box hx0;obtain⟨r0,r1,r2,r3,r4,r5⟩:=six_box hx1;obtain⟨rf0,rf1,rf2,rf3,rf4,rf5⟩:=Base.frz6 hx1;have HB0:=hid hb0;have HX1:=hid hx1;clear hx0 hx1 hb0 hW h;by_cases hin:0<=i/\i<(L.length:Int)
 ·have d0:decide (i<0)=false:=decide_eq_false (by omega)
  have d1:decide ((L.length:Int)<=i)=false:=decide_eq_false (by omega);obtain⟨j,hj⟩ : ∃ j:Nat,i=(j:Int):=⟨i.toNat,by omega⟩;subst hj;have hjl:j<L.length:=by omega
  obtain⟨g,u,rfl,hu,hi⟩:=hel j hjl;obtain⟨an,ln,cn,al,ll,cl,rfl⟩:=in_shape hi;have hi0:=hi.below HB0.out;obtain⟨y0,y1,y2,y3,y4,y5,E,c0,c1,c2,c3,c4,c5⟩:=hu;simp only [Value.agg.injEq, Array.mk.injEq, List.cons.injEq, and_true] at E;obtain⟨rfl,rfl,rfl,rfl,rfl,rfl⟩:=E;have c0:=below_cell c0 HB0.out;have c1:=below_cell c1 HB0.out;have c2:=below_cell c2 HB0.out;have c3:=below_cell c3 HB0.out;have c4:=below_cell c4 HB0.out;have c5:=below_cell c5 HB0.out;have HR:Hid (rh L (j:Int)=some L[j]):=by
   show _=_;unfold rh;rw[if_pos (by omega),Int.toNat_natCast,List.getElem?_eq_getElem hjl]
  have HI:=hid hi0;obtain⟨c,hc⟩ : ∃ c,L[j]=c:=⟨_,rfl⟩;rw[hc] at HR HI c0 c1 c2 c3;rw[HR.out];obtain⟨W9,hW9⟩:=stc6 W0 (W.heap.size+1) (.int .i64 c.k) (.bool c.b) (.int .i64 c.i) (.string c.s) (.slice an ln cn) (.slice al ll cl);obtain⟨q1,q2,q3,q4⟩:=set6 _ _ _ _ _ _ HX1.out hW9;have i0:(0:Int)<=(j:Int):=by omega
  have i1:(j:Int)<(L.length:Int):=by omega
  have HIN:=hid (HI.out.keep (fun b hb hb2=>q2 b (by omega)));have HB9:=hid (q4 _ _ (by omega) HB0.out);have HQ1:=hid q1;clear q1 q2 q3 q4 hi hi0 hel hc HI hin
  go_enter func27,ntmps27;go_wp2_with fail
  try rw[hW9]
  refine bodyPost_ret (Part.res_row_tmp rfl _ W9 (W.heap.size+1) 26 _ (0,0) _ rfl HQ1.out underlying26 rfl (by kernel_rfl)) rfl ?_;exact⟨HB9.out,c.k,c.b,c.i,c.s,an,ln,cn,al,ll,cl,rfl,fun c' hc'=>by cases hc';exact HIN.out⟩
 ·have HR:Hid (rh L i=none):=by
   show _=_;unfold rh;by_cases h0:0<=i
   ·rw[if_pos h0]
    exact List.getElem?_eq_none (by omega)
   ·rw[if_neg h0]
  rw[HR.out];obtain⟨W9,hW9⟩:=stc6 W0 (W.heap.size+1) (.int .i64 0) (.bool false) (.int .i64 0) (.string ⟨#[]⟩) (.slice none 0 0) (.slice none 0 0);obtain⟨q1,q2,q3,q4⟩:=set6 _ _ _ _ _ _ HX1.out hW9;have HB9:=hid (q4 _ _ (by omega) HB0.out);have HQ1:=hid q1;clear q1 q2 q3 q4 hel;by_cases h0:i<0
  ·have d0:decide (i<0)=true:=decide_eq_true h0
   clear h0 hin
   go_enter func27,ntmps27;go_wp2_with fail
   try rw[hW9]
   refine bodyPost_ret (Part.res_row_tmp rfl _ W9 (W.heap.size+1) 26 _ (0,0) _ rfl HQ1.out underlying26 rfl (by kernel_rfl)) rfl ?_;exact⟨HB9.out,0,false,0,⟨#[]⟩,none,0,0,none,0,0,rfl,fun c' hc'=>by cases hc'⟩
  ·have d0:decide (i<0)=false:=decide_eq_false h0
   have d1:decide ((L.length:Int)<=i)=true:=decide_eq_true (by omega);clear h0 hin
   go_enter func27,ntmps27;go_wp2_with fail
   try rw[hW9]
   refine bodyPost_ret (Part.res_row_tmp rfl _ W9 (W.heap.size+1) 26 _ (0,0) _ rfl HQ1.out underlying26 rfl (by kernel_rfl)) rfl ?_;exact⟨HB9.out,0,false,0,⟨#[]⟩,none,0,0,none,0,0,rfl,fun c' hc'=>by cases hc'⟩
end Go.Proofs.YtdolgmmldncfkaaGreatDoor.GPl
namespace Go.Proofs.YtdolgmmldncfkaaGreatDoor.JEr
open Go.RowKit Base EPure JPure
open VPure hiding evL
open SFit (kd)
def N0 {α:Type} (x:Except Nat α):Prop:=x ≠ .error 0
theorem ok0 {α:Type} (a:α):N0 (.ok a):=fun h=>by cases h
theorem er0 {α:Type} {e:Nat} (h:e≠0):N0 (.error e:Except Nat α):=fun q=>by injection q with q;exact h q
theorem bnd0 {α β:Type} {x:Except Nat α} {f:α->Except Nat β} (h:N0 x) (hf:∀ a,N0 (f a)):N0 (bnd x f):=by
 cases x with
 | error e=>exact er0 fun q=>h (by rw[q])
 | ok a=>exact hf a
theorem isT0 (c:C):N0 (isT c):=by unfold isT;split <;> first | exact ok0 _ | exact er0 (by decide)
theorem chk0 (x e:Int):N0 (chkI x e):=by unfold chkI;(repeat' split) <;> first | exact ok0 _ | exact er0 (by decide)
theorem mapI0 {x:Except Nat Int} (h:N0 x):N0 (mapI x):=by
 cases x with
 | error e=>exact er0 fun q=>h (by rw[q])
 | ok a=>exact ok0 _
theorem mapS0 {x:Except Nat ByteArray} (h:N0 x):N0 (mapS x):=by
 cases x with
 | error e=>exact er0 fun q=>h (by rw[q])
 | ok a=>exact ok0 _
theorem mapB0 {x:Except Nat Bool} (h:N0 x):N0 (mapB x):=by
 cases x with
 | error e=>exact er0 fun q=>h (by rw[q])
 | ok a=>exact ok0 _
theorem txt0 (c:C):N0 (txt c):=by unfold txt;split <;> first | exact ok0 _ | exact er0 (by decide)
theorem ord0 (k1 i1:Int) (s1:ByteArray) (k2 i2:Int) (s2:ByteArray):N0 (ord k1 i1 s1 k2 i2 s2):=by unfold ord;(repeat' split) <;> first | exact ok0 _ | exact er0 (by decide)
theorem numb0 (o:Int) (a b:C):N0 (numb o a b):=by
 refine mapI0 ?_;unfold twI;(repeat' split) <;> first | exact chk0 _ _ | exact er0 (by decide)
theorem pr20 (o:Int) (a b:C):N0 (pr2 o a b):=by
 unfold pr2;by_cases q:o=17
 ·rw[if_pos q]
  exact bnd0 (txt0 a) fun x=>bnd0 (txt0 b) fun y=>by split <;> first | exact er0 (by decide) | exact ok0 _
 rw[if_neg q];clear q;by_cases q:o=10
 ·rw[if_pos q];exact numb0 _ _ _
 rw[if_neg q];clear q;by_cases q:o=23
 ·rw[if_pos q];exact bnd0 (ord0 _ _ _ _ _ _) fun _=>ok0 _
 rw[if_neg q];clear q;by_cases q:o=24
 ·rw[if_pos q];exact bnd0 (ord0 _ _ _ _ _ _) fun _=>ok0 _
 rw[if_neg q];clear q;by_cases q:o=25
 ·rw[if_pos q];exact bnd0 (ord0 _ _ _ _ _ _) fun _=>ok0 _
 rw[if_neg q];clear q;by_cases q:o=26
 ·rw[if_pos q];exact bnd0 (ord0 _ _ _ _ _ _) fun _=>ok0 _
 rw[if_neg q];clear q;by_cases q:o=27
 ·rw[if_pos q];exact ok0 _
 rw[if_neg q];clear q;by_cases q:o=28
 ·rw[if_pos q];exact ok0 _
 rw[if_neg q];clear q;by_cases q:o=7\/o=8
 ·rw[if_pos q]
  unfold VPure.prt prtR;by_cases q5:a.k=5
  ·rw[if_pos q5]
   (repeat' split) <;> first | exact er0 (by decide) | exact ok0 _
  ·rw[if_neg q5]
   by_cases q6:a.k=6/\b.k=4
   ·rw[if_pos q6]
    cases Part.fi a.n b.s with
    | none=>exact er0 (by decide)
    | some q=>exact ok0 _
   ·rw[if_neg q6];exact er0 (by decide)
 rw[if_neg q];clear q;by_cases q:o=9
 ·rw[if_pos q]
  unfold cal;by_cases q1:b.i=1
  ·rw[if_pos q1]
   refine mapI0 ?_;unfold lenI;(repeat' split) <;> first | exact er0 (by decide) | exact ok0 _
  rw[if_neg q1];by_cases q2:b.i=2
  ·rw[if_pos q2];exact mapS0 (txt0 a)
  ·rw[if_neg q2]
   refine mapI0 ?_;unfold tunI;split <;> first | exact er0 (by decide) | exact ok0 _
 rw[if_neg q];clear q;by_cases q:o=11
 ·rw[if_pos q]
  refine mapB0 ?_;unfold notT;split <;> first | exact er0 (by decide) | exact ok0 _
 rw[if_neg q];clear q;by_cases q:o=20\/o=21\/o=22
 ·rw[if_pos q]
  refine mapI0 ?_;unfold twX;(repeat' split) <;> first | exact er0 (by decide) | exact ok0 _
 rw[if_neg q];clear q;exact numb0 _ _ _
theorem kd_pos {o:Int} {n:Nat} (h:(n:Int)=kd o) (h1 : ¬ (1<=o/\o<=6)):0<n/\(¬ (o=7\/o=9\/o=10\/o=11)->1<n)/\(o=31->2<n):=by
 unfold kd at h;rw[if_neg h1] at h;by_cases h2:o=7\/o=9\/o=10\/o=11
 ·rw[if_pos h2] at h;exact⟨by omega,fun q=>(q h2).elim,fun q=>by omega⟩
 rw[if_neg h2] at h;by_cases h3:o=8\/(12<=o/\o<=30)
 ·rw[if_pos h3] at h;exact⟨by omega,fun _=>by omega,fun q=>by omega⟩
 rw[if_neg h3] at h;by_cases h4:o=31
 ·rw[if_pos h4] at h;exact⟨by omega,fun _=>by omega,fun q=>by omega⟩
 rw[if_neg h4] at h;omega
theorem node0 {ρ:ByteArray->Option C} {o i:Int} {s:ByteArray} {p:List Ans} (hk:(p.length:Int)=kd o) (hp:∀ q,q<p.length->N0 (p.getD q (.error 0))):N0 (node ρ o i s p):=by
 unfold node;by_cases q1:o=1
 ·rw[if_pos q1];exact ok0 _
 rw[if_neg q1];by_cases q2:o=2\/o=3
 ·rw[if_pos q2];exact ok0 _
 rw[if_neg q2];by_cases q4:o=4
 ·rw[if_pos q4];exact ok0 _
 rw[if_neg q4];by_cases q5:o=5
 ·rw[if_pos q5];exact ok0 _
 rw[if_neg q5];by_cases q6:o=6
 ·rw[if_pos q6]
  cases ρ s with
  | none=>exact er0 (by decide)
  | some c=>exact ok0 _
 rw[if_neg q6];obtain⟨k0,k1,k2⟩:=kd_pos hk (by omega);have h0:=hp 0 k0;by_cases q29:o=29\/o=30
 ·rw[if_pos q29]
  have h1:=hp 1 (k1 (by omega));exact bnd0 (bnd0 h0 isT0) fun b=>by
   split
   ·exact ok0 _
   ·exact bnd0 (bnd0 h1 isT0) fun c=>ok0 _
 rw[if_neg q29];by_cases q31:o=31
 ·rw[if_pos q31]
  have h1:=hp 1 (k1 (by omega));have h2:=hp 2 (k2 q31);exact bnd0 (bnd0 h0 isT0) fun b=>by
   split
   ·exact h1
   ·exact h2
 rw[if_neg q31];refine bnd0 h0 fun a=>bnd0 ?_ fun b=>pr20 o a b
 unfold snd2;by_cases r7:o=7
 ·rw[if_pos r7];exact ok0 _
 rw[if_neg r7];by_cases r9:o=9
 ·rw[if_pos r9];exact ok0 _
 rw[if_neg r9];by_cases r10:o=10\/o=11
 ·rw[if_pos r10];exact ok0 _
 rw[if_neg r10];exact hp 1 (k1 (by omega))
theorem evL_len (ρ:Int->Option C):∀ l:List Ex,(evL ρ l).length=l.length
 | []=>by rw[evL];rfl
 | x :: t=>by rw[evL_cons,List.length_cons,List.length_cons,evL_len ρ t]
theorem evL0 {ρ:Int->Option C}:∀ (l:List Ex),gdL l->∀ q,q<(evL ρ l).length->N0 ((evL ρ l).getD q (.error 0))
 | [],_,q,h=>by rw[evL] at h;simp at h
 | .mk o i s l :: t,hg,0,h=>by
  rw[gdL] at hg;rw[evL];show N0 (node (fun _=>ρ i) o i s (evL ρ l));exact node0 (by rw[evL_len];exact hg.1.1) (evL0 (ρ:=ρ) l hg.1.2.2)
 | .mk o i s l :: t,hg,q+1,h=>by
  rw[gdL] at hg;rw[evL] at h ⊢;have:=evL0 (ρ:=ρ) t hg.2 q (by simpa using h);simpa using this
theorem ev0 {ρ:Int->Option C} {x:Ex} (hg:gd x):ev ρ x ≠ .error 0:=node0 (by rw[evL_len];exact hg.1) (evL0 x.l hg.2.2)
end Go.Proofs.YtdolgmmldncfkaaGreatDoor.JEr
namespace Go.Proofs.YtdolgmmldncfkaaGreatDoor.GVa
open Go.RowKit Base EPure JPure VJn VRs JVa JRv GPl
open VPure hiding evL
structure Rk (K m n:Nat) (w:World) (Pv:Value) (L:List C) (v:Value) (x:Ex):Prop where
 ex:XBase.In false (fun b=>b<K) w n v x
 low:K<=w.heap.size
 wfs:∀ (j:Int) c,rh L j=some c->wf c
 gd:gd x
 ok:ops okOp x
 tb:Tb w
 sk:Sk K (m+1) w Pv L
theorem Rk.below {K m n:Nat} {w w':World} {Pv:Value} {L:List C} {v:Value} {x:Ex} (h:Rk K m n w Pv L v x) (hb:Below w.heap.size w w'):Rk K m n w' Pv L v x:=
 ⟨h.ex.below hb,Nat.le_trans h.low hb.size,h.wfs,h.gd,h.ok,h.tb.below hb,h.sk.below hb⟩
theorem value_c {K m n:Nat} {w:World} {Pv:Value} {L:List C} {v:Value} {x:Ex} (h:Rk K m n w Pv L v x) :
  Calls prog 111 #[Pv,v] w fun e w'=>VR K (m+1) w (ev (rh L) x) e w':=by
 have hmf:∀ (fn:Fn) (first cap:Array Value) (w:World),(Instr.makeFunc fn first cap).run prog w=.ok (.func fn first cap) w:=fun _ _ _ _=>rfl
 have hne:=JEr.ev0 (ρ:=rh L) h.gd;obtain⟨n',lv,rfl,rfl,-⟩:=h.ex.shape;obtain⟨W0,hW0⟩ : ∃ W0,(w.alloc (.cells #[.int .i64 x.o,.int .i64 x.i,.string x.s,lv] 44)).alloc (.cells #[.int .i64 0,.bool false,.int .i64 0,.string ⟨#[]⟩,.slice none 0 0,.slice none 0 0] 26)=W0:=⟨_,rfl⟩;have hb0:Below w.heap.size w W0:=by rw[<- hW0];exact ((Below.refl _ w).alloc (Nat.le_refl _) _).alloc (by simp) _
 have hs0:W0.heap.size=w.heap.size+2:=by rw[<- hW0];simp
 have hx0:W0.heap[w.heap.size]? = some (.cells #[.int .i64 x.o,.int .i64 x.i,.string x.s,lv] 44 (0,0)):=by rw[<- hW0,Below.heap_alloc _ _ _ (by simp),heap_alloc_new]
 have hx1:W0.heap[w.heap.size+1]? = some (.cells #[.int .i64 0,.bool false,.int .i64 0,.string ⟨#[]⟩,.slice none 0 0,.slice none 0 0] 26 (0,0)):=by
  have:=heap_alloc_new (w.alloc (.cells #[.int .i64 x.o,.int .i64 x.i,.string x.s,lv] 44)) (.cells #[.int .i64 0,.bool false,.int .i64 0,.string ⟨#[]⟩,.slice none 0 0,.slice none 0 0] 26);rwa [hW0,World.size_alloc] at this
 have h0:=h.below hb0;have cR:=reckon_c (m:=m) h0.ex h0.low h0.wfs h0.gd h0.ok h0.tb (at_c h0.sk h0.low);obtain⟨x0,x1,x2,x3⟩:=XBase.four_box hx0;have HB0:=hid hb0;have HX1:=hid hx1;have hlow:=h.low;obtain⟨ps,pc,rfl,-⟩:=h.sk;generalize ev (rh L) x=U at *
 clear h h0 hx0 hx1 hb0;go_enter func111,ntmps111;go_wp2_with fail
 try rw[hW0]
 refine cR.mono ?_;rintro e W1 ⟨b1,hA⟩;have hs1:=b1.size;have HB1:=hid (nx HB0.out b1);have HX1':=hid ((b1.block _ (by omega)).trans HX1.out);clear cR b1 HX1 HB0 x0 x1 x2 x3 hW0;cases U with
 | error q=>
  obtain rfl:=hA;have hq:((q:Int) != 0)=true:=by
   simp only [bne_iff_ne];intro hq;have:q=0:=by omega
   subst this;exact hne rfl
  obtain⟨W2,hW2⟩ : ∃ W2,W1.alloc (.cells #[.int .i64 0,.bool false,.int .i64 0,.string ⟨#[]⟩,.slice none 0 0,.slice none 0 0] 26)=W2:=⟨_,rfl⟩;have HB2:Hid (Below w.heap.size w W2):=by rw[<- hW2];exact HB1.out.alloc HB1.out.size _
  have HW2:=hid hW2;clear hne hW2;go_wp2_with fail
  try rw[HW2.out]
  exact⟨rfl,HB2.out,rfl⟩
 | ok c=>
  obtain⟨u,rfl,hin⟩:=hA;obtain⟨an,ln,cn,al,ll,cl,rfl⟩:=in_shape hin
  obtain⟨W2,hW2⟩ : ∃ W2,W1.alloc (.cells #[.int .i64 c.k,.bool c.b,.int .i64 c.i,.string c.s,.slice an ln cn,.slice al ll cl] 26)=W2:=⟨_,rfl⟩;have b2:=alB hW2;have hx2:=alG hW2;have hx1:W2.heap[w.heap.size+1]? = some (.cells #[.int .i64 0,.bool false,.int .i64 0,.string ⟨#[]⟩,.slice none 0 0,.slice none 0 0] 26 (0,0)):=(b2.block _ (by omega)).trans HX1'.out;obtain⟨n0,n1,n2,n3,n4,n5⟩:=six_box hx2;obtain⟨r0,r1,r2,r3,r4,r5⟩:=six_box hx1;obtain⟨rf0,rf1,rf2,rf3,rf4,rf5⟩:=Base.frz6 hx1;obtain⟨W9,hW9⟩:=stc6 W2 (w.heap.size+1) (.int .i64 c.k) (.bool c.b) (.int .i64 c.i) (.string c.s) (.slice an ln cn) (.slice al ll cl);obtain⟨q1,q2,q3,q4⟩:=set6 _ _ _ _ _ _ hx1 hW9;have HB9:=hid (q4 _ _ (by omega) (nx HB1.out b2));have HI9:=hid ((hin.below b2).keep (fun b hb hb2=>q2 b (by omega)));have HQ1:=hid q1;clear q1 q2 q3 q4 hin b2 hx1 hx2 hne;go_wp2_with fail
  try rw[hW9]
  refine bodyPost_ret (results_cell_row rfl _ W9 (w.heap.size+1) 26 _ (0,0) _ rfl HQ1.out underlying26 rfl (by kernel_rfl)) rfl ?_;exact⟨HB9.out,_,rfl,HI9.out⟩
end Go.Proofs.YtdolgmmldncfkaaGreatDoor.GVa
namespace Go.Proofs.YtdolgmmldncfkaaGreatDoor.GTr
open Go.RowKit Base EPure JPure VSm VRs GPl GVa
open VPure hiding evL
def isL (c:C):Except Nat (List C):=if c.k=5 then .ok c.l else .error 1101
def isK (c:C):Except Nat (Int × Int × ByteArray):=if TextKey.ke c=0 then .ok (TextKey.kk c,TextKey.ki c,TextKey.ks c) else .error 1101
def LR (K m:Nat) (w:World) (a:Except Nat (List C)) (e:Ending) (w':World):Prop:=Below w.heap.size w w'/\match a with
 | .ok l=>∃ v,e=.returned v/\Base.InL false (fun b=>b<K) w' m v l
 | .error n=>e=.panicked (pkE n)
theorem isT_ok {c:C} (h:c.k=2):bnd (.ok c) isT=.ok c.b:=by show isT c=_;unfold isT;rw[if_pos h]
theorem isT_no {c:C} (h:c.k≠2):bnd (.ok c) isT=.error 1101:=by show isT c=_;unfold isT;rw[if_neg h]
theorem isL_ok {c:C} (h:c.k=5):bnd (.ok c) isL=.ok c.l:=by show isL c=_;unfold isL;rw[if_pos h]
theorem isL_no {c:C} (h:c.k≠5):bnd (.ok c) isL=.error 1101:=by show isL c=_;unfold isL;rw[if_neg h]
theorem three_b {w:World} {B:Nat} {v0 v1 v2:Value} {t:TypeId} (h:w.heap[B]? = some (.cells #[v0,v1,v2] t (0,0))):w.cell? ⟨B,0,none⟩=some v0/\w.cell? ⟨B,1,none⟩=some v1/\w.cell? ⟨B,2,none⟩=some v2:=by
 refine⟨?_,?_,?_⟩ <;> simp [World.cell?, h]
theorem heap_set (w:World) (B j:Nat) (cs:Array Value) (t:TypeId) (v:Value) (h:w.heap[B]? = some (.cells cs t (0,0))):(w.setCell ⟨B,j,none⟩ v).heap[B]? = some (.cells (cs.setIfInBounds j v) t (0,0)):=by
 simp [World.setCell, Array.getElem?_modify, h]
theorem set3 {W W9:World} {R:Nat} {z0 z1 z2 a b c:Value} {t:TypeId} (h:W.heap[R]? = some (.cells #[z0,z1,z2] t (0,0))) (e:((W.setCell ⟨R,0,none⟩ a).setCell ⟨R,1,none⟩ b).setCell ⟨R,2,none⟩ c=W9) :
  W9.heap[R]? = some (.cells #[a,b,c] t (0,0))/\∀ B,B<=R->Below B W W9:=by
 subst e;exact⟨heap_set _ _ _ _ _ _ (heap_set _ _ _ _ _ _ (heap_set _ _ _ _ _ _ h)),fun B hB=>((((Below.refl B W).setCell (p:=⟨R,0,none⟩) hB a).setCell (p:=⟨R,1,none⟩) hB b).setCell (p:=⟨R,2,none⟩) hB c)⟩
theorem truth_c {K m n:Nat} {w:World} {Pv:Value} {L:List C} {v:Value} {x:Ex} (h:Rk K m n w Pv L v x) :
  Calls prog 116 #[Pv,v] w fun e w'=>An w w' e Value.bool (bnd (ev (rh L) x) isT):=by
 obtain⟨n',lv,rfl,rfl,-⟩:=h.ex.shape;obtain⟨W0,hW0⟩ : ∃ W0,w.alloc (.cells #[.int .i64 x.o,.int .i64 x.i,.string x.s,lv] 44)=W0:=⟨_,rfl⟩;have hb0:=alB hW0;have hs0:W0.heap.size=w.heap.size+1:=by rw[<- hW0];simp
 have hx0:=alG hW0;have cV:=value_c (h.below hb0);obtain⟨x0,x1,x2,x3⟩:=XBase.four_box hx0;have HB0:=hid hb0;obtain⟨ps,pc,rfl,-⟩:=h.sk;obtain⟨A,hA0⟩ : ∃ A,bnd (ev (rh L) x) isT=A:=⟨_,rfl⟩;rw[hA0];generalize ev (rh L) x=U at *
 have HA:=hid hA0;clear h hx0 hb0 hA0;go_enter func116,ntmps116;go_wp2_with fail
 try rw[hW0]
 refine cV.mono ?_;rintro e W1 ⟨b1,hA⟩;have HB1:=hid (nx HB0.out b1);have hs1:=b1.size;clear cV b1 HB0 x0 x1 x2 x3 hW0;cases U with
 | error q=>
  obtain rfl:=hA;have hA:=HA.out;subst hA;exact⟨rfl,rfl,HB1.out⟩
 | ok c=>
  obtain⟨u,rfl,hin⟩:=hA;obtain⟨an,ln,cn,al,ll,cl,rfl⟩:=in_shape hin
  obtain⟨W2,hW2⟩ : ∃ W2,W1.alloc (.cells #[.int .i64 c.k,.bool c.b,.int .i64 c.i,.string c.s,.slice an ln cn,.slice al ll cl] 26)=W2:=⟨_,rfl⟩;have b2:=alB hW2;have hx2:=alG hW2;have hs2:W2.heap.size=W1.heap.size+1:=by rw[<- hW2];simp
  obtain⟨n0,n1,n2,n3,n4,n5⟩:=six_box hx2;have HX2:=hid hx2;have HB2:=hid (nx HB1.out b2);have HI2:=hid (hin.below b2);have HW2:=hid hW2;clear hin b2 hx2 hW2;by_cases hk:c.k=2
  ·have ek:(c.k == 2)=true:=by simp [hk]
   have HK:=hid hk;have c1:=GPl.must_t W2;have hA:=HA.out;rw[isT_ok HK.out] at hA;subst hA;clear hk;go_wp2_with fail
   try rw[HW2.out]
   refine c1.mono ?_;rintro e W3 ⟨⟨v2,rfl⟩,h3⟩;obtain rfl:=h3.symm;go_wp2_with fail
   go_ret
   exact⟨rfl,HB2.out⟩
  ·have ek:(c.k == 2)=false:=by simp [hk]
   have HK:=hid hk;have c1:=GPl.must_f W2;have hA:=HA.out;rw[isT_no HK.out] at hA;subst hA;clear hk;go_wp2_with fail
   try rw[HW2.out]
   refine c1.mono ?_;rintro e W3 ⟨rfl,h3⟩;obtain rfl:=h3.symm;exact⟨rfl,rfl,HB2.out⟩
theorem list_c {K m n:Nat} {w:World} {Pv:Value} {L:List C} {v:Value} {x:Ex} (h:Rk K m n w Pv L v x) :
  Calls prog 117 #[Pv,v] w fun e w'=>LR K m w (bnd (ev (rh L) x) isL) e w':=by
 obtain⟨n',lv,rfl,rfl,-⟩:=h.ex.shape;obtain⟨W0,hW0⟩ : ∃ W0,w.alloc (.cells #[.int .i64 x.o,.int .i64 x.i,.string x.s,lv] 44)=W0:=⟨_,rfl⟩;have hb0:=alB hW0;have hs0:W0.heap.size=w.heap.size+1:=by rw[<- hW0];simp
 have hx0:=alG hW0;have cV:=value_c (h.below hb0);obtain⟨x0,x1,x2,x3⟩:=XBase.four_box hx0;have HB0:=hid hb0;obtain⟨ps,pc,rfl,-⟩:=h.sk;obtain⟨A,hA0⟩ : ∃ A,bnd (ev (rh L) x) isL=A:=⟨_,rfl⟩;rw[hA0];generalize ev (rh L) x=U at *
 have HA:=hid hA0;clear h hx0 hb0 hA0;go_enter func117,ntmps117;go_wp2_with fail
 try rw[hW0]
 refine cV.mono ?_;rintro e W1 ⟨b1,hA⟩;have HB1:=hid (nx HB0.out b1);have hs1:=b1.size;clear cV b1 HB0 x0 x1 x2 x3 hW0;cases U with
 | error q=>
  obtain rfl:=hA;have hA:=HA.out;subst hA;exact⟨rfl,HB1.out,rfl⟩
 | ok c=>
  obtain⟨u,rfl,hin⟩:=hA;obtain⟨an,ln,cn,al,ll,cl,rfl⟩:=in_shape hin
  obtain⟨W2,hW2⟩ : ∃ W2,W1.alloc (.cells #[.int .i64 c.k,.bool c.b,.int .i64 c.i,.string c.s,.slice an ln cn,.slice al ll cl] 26)=W2:=⟨_,rfl⟩;have b2:=alB hW2;have hx2:=alG hW2;have hs2:W2.heap.size=W1.heap.size+1:=by rw[<- hW2];simp
  obtain⟨n0,n1,n2,n3,n4,n5⟩:=six_box hx2;have HX2:=hid hx2;have HB2:=hid (nx HB1.out b2);have HI2:=hid (hin.below b2);have HW2:=hid hW2;clear hin b2 hx2 hW2;by_cases hk:c.k=5
  ·have ek:(c.k == 5)=true:=by simp [hk]
   have HK:=hid hk;have c1:=GPl.must_t W2;have hA:=HA.out;rw[isL_ok HK.out] at hA;subst hA;clear hk;go_wp2_with fail
   try rw[HW2.out]
   refine c1.mono ?_;rintro e W3 ⟨⟨v2,rfl⟩,h3⟩;obtain rfl:=h3.symm;go_wp2_with fail
   go_ret
   obtain⟨m',nv,lv',hm,E,-,-,-,-,hl⟩:=HI2.out.shape;simp only [Value.agg.injEq, Array.mk.injEq, List.cons.injEq, and_true] at E;obtain⟨-,-,-,-,-,rfl⟩:=E;obtain rfl:m=m':=by omega
   exact⟨HB2.out,_,rfl,hl⟩
  ·have ek:(c.k == 5)=false:=by simp [hk]
   have HK:=hid hk;have c1:=GPl.must_f W2;have hA:=HA.out;rw[isL_no HK.out] at hA;subst hA;clear hk;go_wp2_with fail
   try rw[HW2.out]
   refine c1.mono ?_;rintro e W3 ⟨rfl,h3⟩;obtain rfl:=h3.symm;exact⟨rfl,HB2.out,rfl⟩
theorem key_c {K m n:Nat} {w:World} {Pv:Value} {L:List C} {v:Value} {x:Ex} (h:Rk K m n w Pv L v x) :
  Calls prog 150 #[Pv,v] w fun e w'=>An w w' e (fun k:Int × Int × ByteArray=>.agg #[.int .i64 k.1,.int .i64 k.2.1,.string k.2.2]) (bnd (ev (rh L) x) isK):=by
 obtain⟨n',lv,rfl,rfl,-⟩:=h.ex.shape;obtain⟨W0,hW0⟩ : ∃ W0,(w.alloc (.cells #[.int .i64 x.o,.int .i64 x.i,.string x.s,lv] 44)).alloc (.cells #[.int .i64 0,.int .i64 0,.string ⟨#[]⟩] 197)=W0:=⟨_,rfl⟩;have hb0:Below w.heap.size w W0:=by rw[<- hW0];exact ((Below.refl _ w).alloc (Nat.le_refl _) _).alloc (by simp) _
 have hs0:W0.heap.size=w.heap.size+2:=by rw[<- hW0];simp
 have hx0:W0.heap[w.heap.size]? = some (.cells #[.int .i64 x.o,.int .i64 x.i,.string x.s,lv] 44 (0,0)):=by rw[<- hW0,Below.heap_alloc _ _ _ (by simp),heap_alloc_new]
 have hx1:W0.heap[w.heap.size+1]? = some (.cells #[.int .i64 0,.int .i64 0,.string ⟨#[]⟩] 197 (0,0)):=by
  have:=heap_alloc_new (w.alloc (.cells #[.int .i64 x.o,.int .i64 x.i,.string x.s,lv] 44)) (.cells #[.int .i64 0,.int .i64 0,.string ⟨#[]⟩] 197);rwa [hW0,World.size_alloc] at this
 have cV:=value_c (h.below hb0);obtain⟨x0,x1,x2,x3⟩:=XBase.four_box hx0;have HB0:=hid hb0;have HX1:=hid hx1;obtain⟨ps,pc,rfl,-⟩:=h.sk;obtain⟨A,hA0⟩ : ∃ A,bnd (ev (rh L) x) isK=A:=⟨_,rfl⟩;rw[hA0];generalize ev (rh L) x=U at *
 have HA:=hid hA0;clear h hx0 hb0 hx1 hA0;go_enter func150,ntmps150;go_wp2_with fail
 try rw[hW0]
 refine cV.mono ?_;rintro e W1 ⟨b1,hA⟩;have HB1:Hid (Below w.heap.size w W1):=nx HB0.out b1;have hs1:=b1.size;have HX1':Hid (W1.heap[w.heap.size+1]? = some (.cells #[.int .i64 0,.int .i64 0,.string ⟨#[]⟩] 197 (0,0))):=(b1.block _ (by omega)).trans HX1.out;clear cV b1 HB0 HX1 x0 x1 x2 x3 hW0;cases U with
 | error q=>
  obtain rfl:=hA;have hA:=HA.out;subst hA;exact⟨rfl,rfl,HB1.out⟩
 | ok c=>
  obtain⟨u,rfl,hin⟩:=hA;have cK:=TextKey.key_c hin.plain
  have HE:Hid ((if TextKey.ke c=0 then .ok (TextKey.kk c,TextKey.ki c,TextKey.ks c) else .error 1101)=A):=HA.out;clear HA;generalize TextKey.ke c=ke at *
  generalize TextKey.kk c=kk at *
  generalize TextKey.ki c=ki at *
  generalize TextKey.ks c=ks at *
  go_wp2_with fail
  refine cK.mono ?_;rintro e W2 ⟨rfl,b2⟩;have HB2:Hid (Below w.heap.size w W2):=nx HB1.out b2;have hs2:=b2.size;have HX2:Hid (W2.heap[w.heap.size+1]? = some (.cells #[.int .i64 0,.int .i64 0,.string ⟨#[]⟩] 197 (0,0))):=(b2.block _ (by omega)).trans HX1'.out;obtain⟨W3,hW3⟩ : ∃ W3,W2.alloc (.cells #[.int .i64 kk,.int .i64 ki,.string ks] 197)=W3:=⟨_,rfl⟩;have b3:Below W2.heap.size W2 W3:=by rw[<- hW3];exact (Below.refl _ W2).alloc (Nat.le_refl _) _
  have hx3:W3.heap[W2.heap.size]? = some (.cells #[.int .i64 kk,.int .i64 ki,.string ks] 197 (0,0)):=by rw[<- hW3];exact heap_alloc_new W2 _
  have hx1:W3.heap[w.heap.size+1]? = some (.cells #[.int .i64 0,.int .i64 0,.string ⟨#[]⟩] 197 (0,0)):=(b3.block _ (by omega)).trans HX2.out;have HB3:Hid (Below w.heap.size w W3):=nx HB2.out b3;have HW3:Hid (W2.alloc (.cells #[.int .i64 kk,.int .i64 ki,.string ks] 197)=W3):=hW3;obtain⟨n0,n1,n2⟩:=three_b hx3;obtain⟨r0,r1,r2⟩:=three_b hx1;have rf0:=frozen_box hx1 0;have rf1:=frozen_box hx1 1;have rf2:=frozen_box hx1 2;clear cK b2 hW3;by_cases hk:ke=0
  ·subst hk
   have hA:=HE.out;rw[if_pos rfl] at hA;subst hA;have c1:=GPl.must_t W3;obtain⟨W9,hW9⟩:=stc3 W3 (w.heap.size+1) (.int .i64 kk) (.int .i64 ki) (.string ks);obtain⟨q1,q4⟩:=set3 hx1 hW9;have HB9:=hid (HB3.out.trans (q4 _ (by omega)));have HQ1:=hid q1;clear q1 q4 hx1 hx3 b3;go_wp2_with fail
   try rw[HW3.out]
   refine c1.mono ?_;rintro e W4 ⟨⟨v2,rfl⟩,h3⟩;obtain rfl:=h3.symm;go_wp2_with fail
   try rw[hW9]
   refine bodyPost_ret (results_cell_row rfl _ W9 (w.heap.size+1) 197 _ (0,0) _ rfl HQ1.out underlying197 rfl (by kernel_rfl)) rfl ?_;exact⟨rfl,HB9.out⟩
  ·have hA:=HE.out
   rw[if_neg hk] at hA;subst hA;have ek:(ke == 0)=false:=by simp [hk]
   have c1:=GPl.must_f W3;clear hk hx1 hx3 b3 HE;go_wp2_with fail
   try rw[HW3.out]
   refine c1.mono ?_;rintro e W4 ⟨rfl,h3⟩;obtain rfl:=h3.symm;exact⟨rfl,rfl,HB3.out⟩
end Go.Proofs.YtdolgmmldncfkaaGreatDoor.GTr

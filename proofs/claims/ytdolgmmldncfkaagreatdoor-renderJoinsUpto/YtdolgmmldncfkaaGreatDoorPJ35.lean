import Derived.Test.YtdolgmmldncfkaaGreatDoorPJ01
import Derived.Test.YtdolgmmldncfkaaGreatDoorPJ17
import Derived.Test.YtdolgmmldncfkaaGreatDoorPJ23
import Derived.Test.YtdolgmmldncfkaaGreatDoorPJ29
import Derived.Test.YtdolgmmldncfkaaGreatDoorPJ32
import Derived.Test.YtdolgmmldncfkaaGreatDoorPJ33
import Derived.Test.YtdolgmmldncfkaaGreatDoorPJ34
open Go.Proofs.Tryz
set_option linter.unusedVariables false
set_option maxRecDepth 20000
set_option maxHeartbeats 3200000
namespace Go.Proofs.YtdolgmmldncfkaaGreatDoor.GRd
open Go.RowKit Base VJn VRs GBe GRe GZp GRn GNg GN2 GTh
open VPure hiding evL
open TBase (T)
open KBase (Pt Fld Co RP RF)
open KVp (szL szL_cons szL_nil)
open Shallow (dep)
theorem kr_of {R:Int->World->Option Nat->Prop} {lo B Bb:Nat} {X:Option Nat} {w:World} {A:Except Nat (List T × Int)} {e:Ending} {w':World} (h:LR R lo B Bb X (.slice none 0 0) [] w A e w') (hl:∀ a,A=.ok a->a.1.length<=65536):KR R lo B Bb X w A e w':=by
 cases A with
 | error q=>exact h
 | ok a=>
  obtain⟨h1,h2,X',tv',h3,h4,h5,h6,-⟩:=h;exact⟨hl a rfl,h1,h2,X',tv',h3,h4,h5,h6⟩
theorem render_c {m mc n:Nat} {w:World} {cv v:Value} {cs:List Co} {c:C} (hcs:KBase.InL false (fun b=>b<w.heap.size) w mc cv cs) (hin:Base.In false (fun b=>b<w.heap.size) w (m+1) v c) (hpos:0<szL cs) (hchk:KNd.chk cs=0) (hdep:dep c<=4096) (hms:(Measure.ms 0 0 (Walk.pl 1 c)).2.2=0) (ht:Tb w) (hA0:rnL (rn n [c]) cs 4096 [] ≠ .error 0)
  (hd:∀ B Bb sv,sv.2.1=zs cs->∀ d ∈ cs,NDs w.heap.size m B Bb sv n [c] d) :
  Calls prog 7 #[cv,v] w fun e w'=>RR w (bnd (rnL (rn n [c]) cs 4096 []) fun a=>.ok a.1) e w':=by
 obtain⟨an,ln,cn,al,ll,cl,rfl⟩:=in_shape hin
 obtain⟨W0,hW0⟩ : ∃ W0,(w.alloc (.cells #[.int .i64 c.k,.bool c.b,.int .i64 c.i,.string c.s,.slice an ln cn,.slice al ll cl] 26)).alloc (.cells #[.slice none 0 0] 57)=W0:=⟨_,rfl⟩;have b0:Below w.heap.size w W0:=by rw[<- hW0];exact ((Below.refl _ w).alloc (Nat.le_refl _) _).alloc (by simp) _
 have s0:W0.heap.size=w.heap.size+2:=by rw[<- hW0];simp
 have hbb:W0.heap[w.heap.size+1]? = some (.cells #[.slice none 0 0] 57 (0,0)):=by
  rw[<- hW0];have:=heap_alloc_new (w.alloc (.cells #[.int .i64 c.k,.bool c.b,.int .i64 c.i,.string c.s,.slice an ln cn,.slice al ll cl] 26)) (.cells #[.slice none 0 0] 57);rwa [World.size_alloc] at this
 refine render_of hW0 (through_of (K:=w.heap.size) (m:=m) (mc:=mc) ⟨by omega,by omega⟩ (hcs.keep (w':=W0) (fun b hb _=>b0.block b hb)) (hin.keep (w':=W0) (fun b hb _=>b0.block b hb)) hbb hpos hchk hdep hms (GWf.code_wf hms) (fun W hW=>ht W ((b0.mono (Nat.le_refl _)).trans hW)) hA0 (fun W B Pv sv hw hz hbt hbK=>?_));have hsz:=sz_ok hchk;have key:=nodes_c (num:=0) (hd B _ sv hz) (by rw[hz,zs_len];omega) (hcs.keep (w':=W) (fun b hb _=>(b0.trans hbK).block b hb)) (by rw[hz];exact ats_all cs) hw hbt hw.lt hw.zb.1 (by simp) (by omega);refine Calls.mono key fun e w' h=>kr_of h fun a ha=>?_
 have:=rnL_le (fun c' x a hx ha=>rn_le n [c] c' x a hx ha) cs 4096 [] a (by omega) ha;simp at this
 omega
end Go.Proofs.YtdolgmmldncfkaaGreatDoor.GRd
namespace Go.Proofs.YtdolgmmldncfkaaGreatDoor.GAp
open Go.RowKit Base EPure KBase KAr KEx KLe KNp KNd JPure JVa GPl GAs GTx GNo GNe GRn
open VPure hiding evL
open TBase (T)
abbrev nl:ByteArray:=⟨#[]⟩
def vE (p:Int):Ex:=.mk 6 p nl []
def tC (p:Int):Co:=.mk 1 nl [] [⟨nl,true,vE p⟩] [] [] []
def eC (t:ByteArray) (p:Int):Co:=.mk 2 t [] [] [] [tC p] []
theorem bh_leaf {o i:Int} (hk:SFit.kd o=0) (hf:SFit.ft KSh.rlf o i nl=true):KSh.rsv (.mk o i nl [])=true:=by
 unfold KSh.rsv;rw[SBe.bhL_one (by rw[hk,hf];simp),SBe.bhL_nil];decide
theorem rs_v (p:Int):KSh.rsv (vE p)=true:=bh_leaf (by decide) (by
 unfold SFit.ft;rw[if_pos (by omega)];rfl)
theorem gd_v (p:Int):gd (vE p)/\ops okOp (vE p):=by
 refine⟨⟨by show ((0:Nat):Int)=SFit.kd 6;decide,trivial,?_⟩,?_⟩
 ·show gdL []
  rw[gdL];trivial
 ·refine⟨?_,?_⟩
  ·show okOp 6
   unfold okOp;omega
  ·show opsL okOp []
   rw[opsL];trivial
theorem xs_t (p:Int):xsC (tC p)=[vE p]:=rfl
theorem xs_e (t:ByteArray) (p:Int):xsC (eC t p)=[]:=rfl
theorem lft_t (p r:Int) (hr:2<=r):lft (tC p) r=r - 3:=by
 unfold lft;rw[xs_t];have e1:(tC p).f=[]:=rfl;have e2:(tC p).p.length=1:=rfl;have e3:(tC p).x=[]:=rfl;rw[e1,e2,e3];unfold vE;rw[KPi.bq_one (by simp;omega),KPi.bq_nil];simp
 omega
theorem lft_e (t:ByteArray) (p r:Int):lft (eC t p) r=r - 1:=by
 unfold lft;rw[xs_e,KPi.bq_nil];simp [eC, Co.f, Co.p, Co.x]
theorem ent_t (p s e l:Int):ent (tC p) s e l=((s,e,l),true):=rfl
theorem ent_e {t:ByteArray} (ht:UBase.word t 45=true) (p s e l:Int):ent (eC t p) s e l=((s,e+1,l),true):=by
 have:ent (eC t p) s e l=((s,e+1,l),(UBase.word t 45 && KFd.fl1 none []) && bare ⟨#[]⟩ 0 0 0 0 0):=rfl;rw[this,ht];rfl
theorem wd_p:UBase.word ⟨#[112]⟩ 45=true:=by decide
theorem hs_v (p s:Int):KHs.hs s [vE p]=(decide (0<=p) && decide (p<s)):=by
 unfold vE;rw[KHs.hs_one,KHs.hs_nil];by_cases h1:0<=p
 ·by_cases h2:p<s
  ·simp [h1, h2]
  ·simp [h1, h2]
   omega
 ·simp [h1]
theorem own_t {p r s e l:Int} (hr:0<=r) (hs:s<=64) (he:e<=63) (hl:l<=8) (hp:0<=p/\p<s):own (tC p) r s e l=0:=by
 unfold own;rw[if_neg (by omega),ent_t,if_neg (by simp [deep];omega),if_neg (by simp),xs_t];have h1 : [vE p].all KSh.rsv=true:=by simp [rs_v]
 have h2:plc (tC p) s s=true:=by
  unfold plc;have hk:(tC p).k=1:=rfl;rw[hk,if_neg (by omega),xs_t];simp only [List.all_cons, List.all_nil, hs_v, Bool.and_true];simp [hp.1, hp.2]
 rw[h1,if_neg (by simp),h2,if_neg (by simp)]
theorem own_e {t:ByteArray} (ht:UBase.word t 45=true) {p r s e l:Int} (hr:0<=r) (hs:s<=64) (he:e<=62) (hl:l<=8):own (eC t p) r s e l=0:=by
 unfold own;rw[if_neg (by omega),ent_e ht,if_neg (by simp [deep];omega),if_neg (by simp),xs_e,if_neg (by simp),if_neg];unfold plc;have hk:(eC t p).k=2:=rfl;rw[hk,if_neg (by decide),xs_e];simp
theorem nd_t {p r s e l:Int} (hr:3<=r) (hs:s<=64) (he:e<=63) (hl:l<=8) (hp:0<=p/\p<s):ndL [tC p] r s e l=(r - 3,0):=by
 have h1:(tC p).l=[]:=rfl;have h2:(tC p).u=[]:=rfl;rw[ndL_one,lft_t p r (by omega),own_t (by omega) hs he hl hp,if_neg (by simp),ent_t,h1,h2,ndL_nil,if_neg (by simp),ndL_nil]
theorem nd_e {t:ByteArray} (ht:UBase.word t 45=true) {p r s e l:Int} (hr:4<=r) (hs:s<=64) (he:e<=62) (hl:l<=8) (hp:0<=p/\p<s):ndL [eC t p] r s e l=(r - 4,0):=by
 have h1:(eC t p).l=[tC p]:=rfl;have h2:(eC t p).u=[]:=rfl;rw[ndL_one,lft_e,own_e ht (by omega) hs he hl,if_neg (by simp),ent_e ht,h1,h2];dsimp only
 rw[nd_t (by omega) hs (by omega) hl hp,if_neg (by simp),ndL_nil];simp
 omega
theorem chk_e:chk [eC ⟨#[112]⟩ 0]=0:=by
 unfold chk;rw[nd_e wd_p (by omega) (by omega) (by omega) (by omega) (by omega)]
theorem ev_v {L:List C} {p:Int} {c:C} (h:rh L p=some c):ev (rh L) (vE p)=.ok c:=by
 unfold ev vE;show node (fun _=>rh L p) 6 p nl (evL (rh L) [])=_;unfold node;rw[if_neg (by omega),if_neg (by omega),if_neg (by omega),if_neg (by omega),if_pos rfl,h]
theorem rh0 (c:C):rh [c] 0=some c:=rfl
def tT (c:C) (r:Int):Except Nat (T × Int):=if r=0 then .error 1601 else bnd (txt c) fun s=>if 4096<s.size then .error 1107 else .ok (T.mk nl s [] [],r - 1)
theorem nT_t {L:List C} {p:Int} {c:C} (h:rh L p=some c) (r:Int):nT L (tC p).p r=tT c r:=by
 unfold nT tT;split
 ·rfl
 ·have e1:(tC p).p=[⟨nl,true,vE p⟩]:=rfl
  have e2:tpc L nl true (vE p)=txt c:=by unfold tpc;rw[if_pos rfl,ev_v h];rfl
  rw[e1,tgo,e2];cases txt c with
  | error q=>rfl
  | ok s=>
   show bnd (if 4096<0+s.size then _ else _) _=(if 4096<s.size then _ else _);rw[Nat.zero_add];split
   ·rfl
   ·rw[tgo]
    show Except.ok _=Except.ok _;simp
theorem rn_e {L:List C} {p:Int} {c:C} (h:rh L p=some c) (n:Nat) (t:ByteArray) (r:Int) (hr:r≠0):rn (n+2) L (eC t p) r=bnd (tT c (r - 1)) fun a=>.ok ([T.mk t nl [] [a.1]],a.2):=by
 have e1:(eC t p).k=2:=rfl;have e2:(eC t p).f=[]:=rfl;have e3:(eC t p).l=[tC p]:=rfl;have e4:(eC t p).t=t:=rfl;have e5:(tC p).k=1:=rfl;have e6:rn (n+1) L (tC p) (r - 1)=GRn.one (tT c (r - 1)):=by rw[rn,if_pos e5,nT_t h]
 rw[rn,if_neg (by rw[e1];decide),if_pos e1,e2,e3,e4];unfold nE;rw[if_neg hr,ats,rnL,e6];cases tT c (r - 1) with
 | error q=>rfl
 | ok a=>rfl
end Go.Proofs.YtdolgmmldncfkaaGreatDoor.GAp
namespace Go.Proofs.YtdolgmmldncfkaaGreatDoor.GEi
open Go.RowKit Base
open Shallow (dep)
def cd (c:C):Int:=(Measure.ms 0 0 (Walk.pl 1 c)).2.2
def bd (c:C):Bool:=cd c != 0
theorem none_c {m:Nat} {v:Value} {c:C} {w:World} (h:Base.In false All w m v c) (hd:dep c<=4096) :
  Calls prog 25 #[v] w fun e w'=>e=.returned (.bool (bd c))/\Below w.heap.size w w':=by
 obtain⟨an,ln,cn,al,ll,cl,rfl⟩:=VRs.in_shape h;obtain⟨W0,hW0⟩ : ∃ W0,w.alloc (.cells #[.int .i64 c.k,.bool c.b,.int .i64 c.i,.string c.s,.slice an ln cn,.slice al ll cl] 26)=W0:=⟨_,rfl⟩;have hb0:=alB hW0;have hp:=alG hW0;obtain⟨p0,p1,p2,p3,p4,p5⟩:=six_box hp;have cC:=GMw.check_all (h.below hb0);have HB:=hid hb0;have HBD:Hid (bd c=((Measure.ms 0 0 (Walk.pl 1 c)).2.2 != 0)):=rfl;generalize bd c=Z at *
 generalize (Measure.ms 0 0 (Walk.pl 1 c)).2.2=z at *
 generalize c.k=k at *
 generalize c.b=b at *
 generalize c.i=i at *
 generalize c.s=s at *
 clear h hb0 hp hd;go_enter func25,ntmps25;go_wp2_with fail
 try rw[hW0]
 refine cC.mono ?_;rintro e W1 ⟨rfl,hb1⟩;have HB1:=hid (HB.out.trans (hb1.mono HB.out.size));clear hb1 cC HB p0 p1 p2 p3 p4 p5 hW0;go_wp2_with fail
 go_ret
 exact⟨by rw[HBD.out];rfl,HB1.out⟩
theorem any_cons (l:List C) (q:Nat) (h:q<l.length):(l.drop q).any bd=(bd l[q] || (l.drop (q+1)).any bd):=by
 rw[List.drop_eq_getElem_cons h,List.any_cons]
theorem index_c {m:Nat} {w:World} {v:Value} {l:List C} (hin:Base.InL false All w m v l) (hd:∀ c ∈ l,dep c<=4096) :
  Calls prog 45 #[v,.func (.func 25) #[] #[]] w fun e w'=>∃ z:Int,e=.returned (.int .i64 z)/\decide (0<=z)=l.any bd/\Below w.heap.size w w':=by
 obtain⟨a,cap,rfl,hlc,hcm,hlen,hnil,hL⟩:=hin
 have HL:Hid (LAt false All w m a cap l):=hL;have HD:=hid hd;obtain⟨T,hT⟩ : ∃ T,l.any bd=T:=⟨_,rfl⟩;have HT:=hid hT;rw[hT];clear hT hL hd;go_enter func45,ntmps45;go_wp2_with fail
 go_loopw [8] (fun i wr=>∃ q:Nat,q<=l.length/\i=.int .i64 q/\(l.drop q).any bd=T/\Below w.heap.size w wr) (fun i _=>l.length - (intOf i).toNat)
 case atStart=>exact⟨0,by omega,rfl,HT.out,Below.refl _ _⟩
 case round=>
  clear HT;obtain⟨q,hq,rfl,hM,hb⟩:=hrel;have Hb:=hid hb;by_cases hlt:q<l.length
  ·have d0:decide ((q:Int)<(l.length:Int))=true:=by simp;omega
   have i0:(0:Int)<=(q:Int):=by omega
   have i1:(q:Int)<(l.length:Int):=by omega
   obtain⟨g,o,u,rfl,-,hu,hi⟩:=elem_at HL.out hlt;have hu:=six_below hu hb;obtain⟨an,ln,cn,al,ll,cl,rfl⟩:=VRs.in_shape hi;obtain⟨v0,v1,v2,v3,v4,v5,he,k0,k1,k2,k3,k4,k5⟩:=hu;simp only [Value.agg.injEq, Array.mk.injEq, List.cons.injEq, and_true] at he;obtain⟨rfl,rfl,rfl,rfl,rfl,rfl⟩:=he;rw[any_cons l q hlt] at hM;have cO:=none_c (hi.below hb) (HD.out _ (List.getElem_mem hlt));obtain⟨b,hb'⟩ : ∃ b,bd l[q]=b:=⟨_,rfl⟩;rw[hb'] at cO hM;have HM:=hid hM;generalize l[q].k=kk at *
   generalize l[q].b=bb at *
   generalize l[q].i=ii at *
   generalize l[q].s=ss at *
   clear hi hb' hM hb;go_wp2_with fail
   refine cO.mono ?_;rintro e W1 ⟨rfl,b1⟩;have HB1:=hid (Hb.out.trans (b1.mono Hb.out.size));clear cO b1 k0 k1 k2 k3 k4 k5;cases b with
   | true=>
    have hT:true=T:=by have:=HM.out;rw[Bool.true_or] at this;exact this
    subst hT;go_wp2_with fail
    go_ret
    exact⟨_,rfl,by simp,HB1.out⟩
   | false=>
    go_wp2_with fail
    go_roundw
    case rel=>exact⟨q+1,by omega,by go_num,by have:=HM.out;rw[Bool.false_or] at this;exact this,HB1.out⟩
    case measure=>simp only [intOf];omega
  ·have d0:decide ((q:Int)<(l.length:Int))=false:=by simp;omega
   have hT:false=T:=by
    rw[List.drop_eq_nil_of_le (by omega)] at hM;exact hM
   subst hT;clear hM;go_wp2_with fail
   go_ret
   exact⟨_,rfl,by simp,Hb.out⟩
theorem contains_c {m:Nat} {w:World} {v:Value} {l:List C} (hin:Base.InL false All w m v l) (hd:∀ c ∈ l,dep c<=4096) :
  Calls prog 24 #[v,.func (.func 25) #[] #[]] w fun e w'=>e=.returned (.bool (l.any bd))/\Below w.heap.size w w':=by
 have cI:=index_c hin hd;obtain⟨T,hT⟩ : ∃ T,l.any bd=T:=⟨_,rfl⟩;rw[hT] at cI ⊢;obtain⟨a,cap,rfl,-⟩:=hin
 clear hT hd;go_enter func24,ntmps24;go_wp2_with fail
 refine cI.mono ?_;rintro e W1 ⟨z,rfl,hz,hb⟩;have HB:=hid hb;have HZ:=hid hz;clear hb cI hz;go_wp2_with fail
 have hT:=HZ.out;subst hT;go_ret
 exact⟨rfl,HB.out⟩
end Go.Proofs.YtdolgmmldncfkaaGreatDoor.GEi
namespace Go.Proofs.YtdolgmmldncfkaaGreatDoor.GEv
open Go.RowKit Base EPure JPure VSm VRs JRv GPl GVa GEi
open VPure hiding evL
open Shallow (dep)
def c0:C:=.mk 0 false 0 ⟨#[]⟩ [] []
def va (A:Ans):C:=match A with
 | .ok c=>c
 | .error _=>c0
def er (A:Ans):Int:=match A with
 | .ok _=>0
 | .error q=>(q:Nat)
theorem in_zero (S:Nat->Prop) (w:World):Base.In false S w 1 (v0 0 false 0 ⟨#[]⟩) c0:=by
 show Base.In false S w (0+1) _ (C.mk 0 false 0 ⟨#[]⟩ [] []);rw[Base.in_iff];exact⟨_,_,rfl,by simp,by simp,by simp [ByteArray.size],⟨none,0,rfl,by simp,by omega,by simp,by simp,fun _=>rfl,.inl ⟨rfl,rfl⟩⟩,⟨none,0,rfl,by simp,by simp [maxLen],by simp,fun _=>rfl,.inl ⟨rfl,rfl⟩⟩⟩
theorem eval_of {K m n:Nat} {w:World} {Pv:Value} {L:List C} {v:Value} {x:Ex} (h:Rk K m n w Pv L v x) (hL:Base.InL false All w (m+1) Pv L) (hdp:∀ c ∈ L,dep c<=4096) (hrs:KSh.rsv x=true) (hno:L.any bd=false)
  (hF:∀ (W:World) (v:Value),Base.In false All W (m+1) v (va (ev (rh L) x))->Calls prog 28 #[v] W fun e w'=>∃ u,e=.returned u/\Base.In false (fun b=>W.heap.size<=b) w' (m+1) u (va (ev (rh L) x))/\Below W.heap.size W w') :
  Calls prog 15 #[v,Pv] w fun e w'=>∃ k u,e=.returned (.tuple #[u,.int .i64 (er (ev (rh L) x))])/\Base.In false (fun b=>w.heap.size<=b) w' k u (va (ev (rh L) x))/\Below w.heap.size w w':=by
 have hmf:∀ (fn:Fn) (first cap:Array Value) (w:World),(Instr.makeFunc fn first cap).run prog w=.ok (.func fn first cap) w:=fun _ _ _ _=>rfl
 obtain⟨n',lv,rfl,rfl,-⟩:=h.ex.shape;obtain⟨W0,hW0⟩ : ∃ W0,(w.alloc (.cells #[.int .i64 x.o,.int .i64 x.i,.string x.s,lv] 44)).alloc (.cells #[.int .i64 0,.bool false,.int .i64 0,.string ⟨#[]⟩,.slice none 0 0,.slice none 0 0] 26)=W0:=⟨_,rfl⟩;have hb0:Below w.heap.size w W0:=by rw[<- hW0];exact ((Below.refl _ w).alloc (Nat.le_refl _) _).alloc (by simp) _
 have hs0:W0.heap.size=w.heap.size+2:=by rw[<- hW0];simp
 have hx0:W0.heap[w.heap.size]? = some (.cells #[.int .i64 x.o,.int .i64 x.i,.string x.s,lv] 44 (0,0)):=by rw[<- hW0,Below.heap_alloc _ _ _ (by simp),heap_alloc_new]
 have hx1:W0.heap[w.heap.size+1]? = some (.cells #[.int .i64 0,.bool false,.int .i64 0,.string ⟨#[]⟩,.slice none 0 0,.slice none 0 0] 26 (0,0)):=by
  have:=heap_alloc_new (w.alloc (.cells #[.int .i64 x.o,.int .i64 x.i,.string x.s,lv] 44)) (.cells #[.int .i64 0,.bool false,.int .i64 0,.string ⟨#[]⟩,.slice none 0 0,.slice none 0 0] 26);rwa [hW0,World.size_alloc] at this
 have HH:=hid h;have HL:=hid hL;have HD:=hid hdp;have cR:=KSh.resolved_c ((h.ex.below hb0).weak (fun _ _=>trivial) false id _ (Nat.le_refl _));rw[hrs] at cR;obtain⟨x0,x1,x2,x3⟩:=XBase.four_box hx0;have HB0:=hid hb0;have HX0:=hid hx0;have HX1:=hid hx1;have HNO:=hid hno;obtain⟨ps,pc,rfl,-⟩:=h.sk;obtain⟨U,hU⟩ : ∃ U,ev (rh L) x=U:=⟨_,rfl⟩;have HU:=hid hU;rw[hU] at hF ⊢;have HF:=hid hF;clear hF;clear h hL hdp hrs hno hb0 hx0 hx1 hU;go_enter func15,ntmps15;go_wp2_with fail
 try rw[hW0]
 refine cR.mono ?_;rintro e W1 ⟨rfl,b1⟩;have hs1:=b1.size;have HB1:=hid (HB0.out.trans (b1.mono (by omega)));have HX01:=hid ((b1.block w.heap.size (by omega)).trans HX0.out);have HX11:=hid ((b1.block (w.heap.size+1) (by omega)).trans HX1.out);have cC:=contains_c (Base.InL.below HL.out HB1.out) HD.out;rw[HNO.out] at cC;clear cR b1 x0 x1 x2 x3 hW0;go_wp2_with fail
 refine cC.mono ?_;rintro e W2 ⟨rfl,b2⟩;have hs2:=b2.size;have HB2:=hid (HB1.out.trans (b2.mono HB1.out.size));have HX02:=hid ((b2.block w.heap.size (by omega)).trans HX01.out);have HX12:=hid ((b2.block (w.heap.size+1) (by omega)).trans HX11.out);have h2:=HH.out.below HB2.out;have cV:=reckon_c (m:=m) h2.ex h2.low h2.wfs h2.gd h2.ok h2.tb (at_c h2.sk h2.low);rw[HU.out] at cV;obtain⟨x0,x1,x2,x3⟩:=XBase.four_box HX02.out;clear cC b2 h2;go_wp2_with fail
 refine cV.mono ?_;rintro e W3 ⟨b3,hA⟩;have hs3:=b3.size;have HB3:=hid (HB2.out.trans (b3.mono HB2.out.size));have HX13:=hid ((b3.block (w.heap.size+1) (by omega)).trans HX12.out);obtain⟨k3,i3,b3',s3,an,ln,cn,al,ll,cl,hu,hin⟩ : ∃ k i b s an ln cn al ll cl,e=.returned (.tuple #[.agg #[.int .i64 k,.bool b,.int .i64 i,.string s,.slice an ln cn,.slice al ll cl],.int .i64 (er U)])/\Base.In false All W3 (m+1) (.agg #[.int .i64 k,.bool b,.int .i64 i,.string s,.slice an ln cn,.slice al ll cl]) (va U):=by
  cases U with
  | error q=>
   have hA:e=_:=hA;exact⟨0,0,false,⟨#[]⟩,none,0,0,none,0,0,hA,(in_zero All W3).weak (fun _ h=>h) false id _ (by omega)⟩
  | ok c=>
   obtain⟨u,he,hin⟩:=hA;obtain⟨an,ln,cn,al,ll,cl,rfl⟩:=in_shape hin
   exact⟨_,_,_,_,an,ln,cn,al,ll,cl,he,hin.weak (fun _ _=>trivial) false id _ (Nat.le_refl _)⟩
 subst hu;have HIN:=hid hin
 obtain⟨W4,hW4⟩ : ∃ W4,W3.alloc (.cells #[.int .i64 k3,.bool b3',.int .i64 i3,.string s3,.slice an ln cn,.slice al ll cl] 26)=W4:=⟨_,rfl⟩;have b4:=alB hW4;have hs4:W4.heap.size=W3.heap.size+1:=by rw[<- hW4];simp
 have hx4:=alG hW4;have HX14:=hid ((b4.block (w.heap.size+1) (by omega)).trans HX13.out);have HB4:=hid (HB3.out.trans (b4.mono HB3.out.size));have cF:=HF.out W4 _ (hin.below b4);obtain⟨y0,y1,y2,y3,y4,y5⟩:=six_box hx4;have HW4:=hid hW4;obtain⟨Z,hZ⟩ : ∃ Z,er U=Z:=⟨_,rfl⟩;rw[hZ];clear cV b3 hA hin b4 hx4 x0 x1 x2 x3 hW4;go_wp2_with fail
 try rw[HW4.out]
 refine cF.mono ?_;rintro e W5 ⟨u,rfl,hin5,b5⟩;have hs5:=b5.size;obtain⟨an5,ln5,cn5,al5,ll5,cl5,rfl⟩:=in_shape hin5;have HX15:=hid ((b5.block (w.heap.size+1) (by omega)).trans HX14.out);have HB5:=hid (HB4.out.trans (b5.mono HB4.out.size));obtain⟨r0,r1,r2,r3,r4,r5⟩:=six_box HX15.out;have rf0:=frozen_box HX15.out 0;have rf1:=frozen_box HX15.out 1;have rf2:=frozen_box HX15.out 2;have rf3:=frozen_box HX15.out 3;have rf4:=frozen_box HX15.out 4;have rf5:=frozen_box HX15.out 5;have HI5:=hid hin5;generalize (va U).k=kk at *
 generalize (va U).b=kb at *
 generalize (va U).i=ki at *
 generalize (va U).s=ks at *
 obtain⟨W9,hW9⟩:=stc6 W5 (w.heap.size+1) (.int .i64 kk) (.bool kb) (.int .i64 ki) (.string ks) (.slice an5 ln5 cn5) (.slice al5 ll5 cl5);obtain⟨q1,q2,q3,q4⟩:=set6 _ _ _ _ _ _ HX15.out hW9;have HB9:=hid (q4 _ _ (by omega) HB5.out);have HI9:Hid (Base.In false (fun b=>w.heap.size<=b) W9 (m+1) (vl kk kb ki ks (.slice an5 ln5 cn5) (.slice al5 ll5 cl5)) (va U)):=(HI5.out.keep (w':=W9) (fun b hb _=>q2 b (by have:W4.heap.size<=b:=hb;omega))).weak (fun b hb=>by have:W4.heap.size<=b:=hb;omega) false id _ (Nat.le_refl _);have HQ1:=hid q1;clear q1 q2 q3 q4 hin5 b5 cF;have HZ:=hid hZ;clear hZ;go_wp2_with fail
 try rw[hW9]
 refine bodyPost_ret (Part.res_row_tmp rfl _ W9 (w.heap.size+1) 26 _ (0,0) _ rfl HQ1.out underlying26 rfl (by kernel_rfl)) rfl ?_;exact⟨_,_,by rw[HZ.out];rfl,HI9.out,HB9.out⟩
end Go.Proofs.YtdolgmmldncfkaaGreatDoor.GEv
namespace Go.Proofs.YtdolgmmldncfkaaGreatDoor.GCf
open Go.RowKit Base Clone
theorem row_nil {w:World} {B:Nat} {t:TypeId} {z:Nat} {v:Value} {xs:List Value} (h:w.ownsRow B t z v 0 xs):∃ a cap,v=.slice a 0 cap/\cap<=maxLen/\(a=none->cap=0):=by
 rcases h.2 with ⟨rfl,_⟩|⟨g,cap,cur,rfl,_,_,_,hm,_⟩
 ·exact⟨none,0,rfl,by simp,fun _=>rfl⟩
 ·exact⟨_,cap,rfl,hm,fun h=>by cases h⟩
theorem list_nil {S:Nat->Prop} {m:Nat} {lv:Value} {w:World} (h:InL false S w m lv []) :
  Calls prog 50 #[lv,.func (.func 28) #[] #[]] w fun e w'=>∃ a cap,e=.returned (.slice a 0 cap)/\(cap<=maxLen/\(a=none->cap=0))/\Below w.heap.size w w':=by
 have c70:=cloneV_c m lv [] w h;clear h;go_enter func50,ntmps50;go_wp2_with fail
 refine c70.mono ?_;rintro e w2 ⟨lu,rfl,os,hV0,hos,-,b2⟩;have h0:=hV0.1;rw[show os.length=0 from hos] at h0;obtain⟨a,cap,rfl,h1,h2⟩:=row_nil h0;have HA:Hid (cap<=maxLen/\(a=none->cap=0)):=⟨h1,h2⟩;have HB:=hid b2;clear c70 hV0 hos h0 h1 h2 b2;go_wp2_with fail
 go_loopw [12] (fun i' wr=>i'=.int .i64 0/\w2=wr) (fun _ _=>0)
 case atStart=>exact⟨rfl,rfl⟩
 case round=>
  obtain⟨rfl,hw⟩:=hrel;subst hw;have hlt:decide ((0:Int)<(0:Int))=false:=by simp
  go_wp2_with fail
  go_ret
  exact⟨_,_,rfl,HA.out,HB.out⟩
theorem flat_c {m:Nat} {k:Int} {b:Bool} {i:Int} {s:ByteArray} (w:World) (v:Value) (h:In false All w (m+1) v (.mk k b i s [] [])) :
  Calls prog 28 #[v] w fun e w'=>∃ u,e=.returned u/\In false (fun b=>w.heap.size<=b) w' (m+1) u (.mk k b i s [] [])/\Below w.heap.size w w':=by
 rw[in_iff] at h;obtain⟨nv,lv,rfl,hk,hi,hs,hn,hl⟩:=h;obtain⟨W0,hW0⟩ : ∃ W0,(w.alloc (.cells #[.int .i64 k,.bool b,.int .i64 i,.string s,nv,lv] 26)).alloc (.cells #[.int .i64 0,.bool false,.int .i64 0,.string ⟨#[]⟩,.slice none 0 0,.slice none 0 0] 26)=W0:=⟨_,rfl⟩;have hb0:Below w.heap.size w W0:=by rw[<- hW0];exact ((Below.refl _ w).alloc (Nat.le_refl _) _).alloc (by simp) _
 have hsz0:W0.heap.size=w.heap.size+2:=by rw[<- hW0];simp
 have hx0:W0.heap[w.heap.size]? = some (.cells #[.int .i64 k,.bool b,.int .i64 i,.string s,nv,lv] 26 (0,0)):=by
  rw[<- hW0,Below.heap_alloc _ _ _ (by simp),heap_alloc_new]
 have hx1:W0.heap[w.heap.size+1]? = some (.cells #[.int .i64 0,.bool false,.int .i64 0,.string ⟨#[]⟩,.slice none 0 0,.slice none 0 0] 26 (0,0)):=by
  have:=heap_alloc_new (w.alloc (.cells #[.int .i64 k,.bool b,.int .i64 i,.string s,nv,lv] 26)) (.cells #[.int .i64 0,.bool false,.int .i64 0,.string ⟨#[]⟩,.slice none 0 0,.slice none 0 0] 26);rwa [hW0,World.size_alloc] at this
 have c69:=cloneT_c nv [] W0 (hn.below hb0);obtain⟨-,-,-,-,e4,-⟩:=six_box hx0;go_enter func28,ntmps28;go_wp2_with fail
 refine c69.mono ?_;rintro e w1 ⟨nu,rfl,ht1,b1⟩;obtain⟨an,cn,rfl,hn1,hn2⟩:=row_nil (xs:=(([] : List ByteArray).map Value.string)) ht1;have hy0:=(b1.block w.heap.size (by omega)).trans hx0;have hy1:=(b1.block (w.heap.size+1) (by omega)).trans hx1;clear c69 hx0 hx1 hW0 e4;obtain⟨d0,d1,d2,d3,d4,d5⟩:=six_box hy0;have f4:=frozen_box hy0 4;have hs1:=b1.size;obtain⟨W1,hW1⟩ : ∃ W1,w1.setCell ⟨w.heap.size,4,none⟩ (.slice an 0 cn)=W1:=⟨_,rfl⟩;have hz0:W1.heap[w.heap.size]? = some (.cells #[.int .i64 k,.bool b,.int .i64 i,.string s,.slice an 0 cn,lv] 26 (0,0)):=by rw[<- hW1,block_set hy0];rfl
 have hz1:W1.heap[w.heap.size+1]? = some (.cells #[.int .i64 0,.bool false,.int .i64 0,.string ⟨#[]⟩,.slice none 0 0,.slice none 0 0] 26 (0,0)):=by rw[<- hW1,Below.heap_setCell _ _ _ _ (by simp)];exact hy1
 have hsz1:W1.heap.size=w1.heap.size:=by rw[<- hW1];simp [World.setCell]
 have hb1:Below w.heap.size w W1:=by rw[<- hW1];exact (hb0.trans (b1.mono (by omega))).setCell (p:=⟨w.heap.size,4,none⟩) (Nat.le_refl _) _
 have c70:=list_nil (hl.below hb1);have HN:Hid (cn<=maxLen/\(an=none->cn=0)):=⟨hn1,hn2⟩;clear ht1 hy0 hy1 hn1 hn2 hn hl;obtain⟨-,-,-,-,-,k5⟩:=six_box hz0;go_wp2_with fail
 refine c70.mono ?_;rintro e w2 ⟨al,cl,rfl,hal,b2⟩;have hy0:=(b2.block w.heap.size (by omega)).trans hz0;have hy1:=(b2.block (w.heap.size+1) (by omega)).trans hz1;have HL:=hid hal;clear c70 hz0 hz1 hW1 d0 d1 d2 d3 d4 d5 f4 k5 hal;have f5:=frozen_box hy0 5;have hs2:=b2.size;obtain⟨d0,d1,d2,d3,d4,d5⟩:=six_box hy0;obtain⟨W2,hW2⟩ : ∃ W2,w2.setCell ⟨w.heap.size,5,none⟩ (.slice al 0 cl)=W2:=⟨_,rfl⟩;have hz0:W2.heap[w.heap.size]? = some (.cells #[.int .i64 k,.bool b,.int .i64 i,.string s,.slice an 0 cn,.slice al 0 cl] 26 (0,0)):=by rw[<- hW2,block_set hy0];rfl
 have hz1:W2.heap[w.heap.size+1]? = some (.cells #[.int .i64 0,.bool false,.int .i64 0,.string ⟨#[]⟩,.slice none 0 0,.slice none 0 0] 26 (0,0)):=by rw[<- hW2,Below.heap_setCell _ _ _ _ (by simp)];exact hy1
 have hb2:Below w.heap.size w W2:=by rw[<- hW2];exact (hb1.trans (b2.mono (by omega))).setCell (p:=⟨w.heap.size,5,none⟩) (Nat.le_refl _) _
 obtain⟨e0,e1,e2,e3,e4,e5⟩:=six_box hz1;obtain⟨j0,j1,j2,j3,j4,j5⟩:=six_box hz0;obtain⟨g0,g1,g2,g3,g4,g5⟩:=Base.frz6 hz1;have HZ1:=hid hz1;clear hy0 hy1 hz0 hz1;go_wp2_with fail
 try rw[hW2]
 clear d0 d1 d2 d3 d4 d5 f5;obtain⟨W3,hW3⟩:=stc6 W2 (w.heap.size+1) (.int .i64 k) (.bool b) (.int .i64 i) (.string s) (.slice an 0 cn) (.slice al 0 cl);go_wp2_with fail
 try rw[hW3]
 obtain⟨q1,q2,q3,q4⟩:=set6 _ _ _ _ _ _ HZ1.out hW3;refine bodyPost_ret (results_cell_row rfl _ W3 (w.heap.size+1) 26 _ (0,0) _ rfl q1 underlying26 rfl (by kernel_rfl)) rfl ?_;refine⟨_,rfl,?_,q4 _ _ (by omega) hb2⟩;rw[in_iff];exact⟨_,_,rfl,hk,hi,hs,⟨an,cn,rfl,by simp,HN.out.1,by simp,by simp,HN.out.2,.inl ⟨rfl,rfl⟩⟩,⟨al,cl,rfl,by simp,HL.out.1,by simp,HL.out.2,.inl ⟨rfl,rfl⟩⟩⟩
end Go.Proofs.YtdolgmmldncfkaaGreatDoor.GCf

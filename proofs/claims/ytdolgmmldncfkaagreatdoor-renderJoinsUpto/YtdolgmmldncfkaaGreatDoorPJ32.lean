import Derived.Test.YtdolgmmldncfkaaGreatDoorPJ05
import Derived.Test.YtdolgmmldncfkaaGreatDoorPJ22
import Derived.Test.YtdolgmmldncfkaaGreatDoorPJ30
import Derived.Test.YtdolgmmldncfkaaGreatDoorPJ31
open Go.Proofs.Tryz
set_option linter.unusedVariables false
set_option maxRecDepth 20000
set_option maxHeartbeats 6400000
namespace Go.Proofs.YtdolgmmldncfkaaGreatDoor.Measure
open Go.RowKit Go.Shelf Base Walk Fault
attribute [local go_sem] Oper.semAt_some
def ms:Nat->Nat->List (Nat × C)->Int × Int × Int
 | D,k,[]=>(D,k,0)
 | D,k,(d,c) :: r=>if ft c d (k+1:Nat)=0 then ms (max D d) (k+1) r else (0,0,ft c d (k+1:Nat))
theorem parts_in (n:Nat) (v0 v1 v2 v3 v4 v5:Value) (w:World) :
  CallsIn Fence.wide n prog 72 #[.agg #[v0,v1,v2,v3,v4,v5]] w fun e w'=>e=.returned (.func (.func 106) #[] #[.pointer (some ⟨w.heap.size,0,none⟩)])/\w'=w.alloc (.cells #[v0,v1,v2,v3,v4,v5] 26):=by
 refine callsIn_of_wp func72 rfl trivial ?_ rfl;simp only [ntmps72, List.size_toArray, List.length_cons, List.length_nil, Nat.reduceAdd, Nat.reduceSub, Array.replicate_succ, Array.replicate_zero, List.push_toArray, List.append_toArray, List.nil_append, List.cons_append];gi_wp2
 go_ret
 exact⟨rfl,rfl⟩
theorem heap_alloc_at (w:World) (o:Obj) (k:Nat) (h:k=w.heap.size):(w.alloc o).heap[k]? = some o:=by subst h;exact heap_alloc_new w o
theorem keeps_below {B:Nat} {W W':World} (h:Below W.heap.size W W'):KeepsFrom B W W':=⟨h.size,fun k o _ hk _=>(h.block k (Array.getElem?_eq_some_iff.1 hk).1).trans hk⟩
theorem Kp.set {n0 n1:Nat} (W:World) (B:Nat) (u:Value) (h0:n0<=B) (h1:B<n1):Kp n0 n1 W (W.setCell ⟨B,0,none⟩ u):=
 ⟨(Below.refl _ W).setCell (p:=⟨B,0,none⟩) h0 u,fun b c t fz hb hc=>by rw[Below.heap_setCell _ _ _ _ (by simp;omega)];exact hc⟩
end Go.Proofs.YtdolgmmldncfkaaGreatDoor.Measure
namespace Go.Proofs.YtdolgmmldncfkaaGreatDoor.GRn
open Go.RowKit Base EPure JPure GPl GTr GNo GNe
open VPure hiding evL
open TBase (T)
open KBase (Pt Fld Co)
def rnL (f:Co->Int->Except Nat (List T × Int)):List Co->Int->List T->Except Nat (List T × Int)
 | [],r,F=>.ok (F,r)
 | c :: cs,r,F=>bnd (f c r) fun a=>rnL f cs a.2 (F ++ a.1)
def lp (f:Nat->C->Int->Except Nat (List T × Int)):List C->Nat->Int->List T->Except Nat (List T × Int)
 | [],_,r,F=>.ok (F,r)
 | v :: t,i,r,F=>bnd (f i v r) fun a=>lp f t (i+1) a.2 (F ++ a.1)
def iV (i:Int):C:=.mk 3 false i ⟨#[]⟩ [] []
def kin (k:Int × Int × ByteArray) (ks:List (Int × Int × ByteArray)):Bool:=ks.any fun j=>decide (j.1=k.1) && decide (j.2.1=k.2.1) && decide (j.2.2.data=k.2.2.data)
theorem kin_iff {k:Int × Int × ByteArray} {ks:List (Int × Int × ByteArray)}:kin k ks=true ↔ k ∈ ks:=by
 unfold kin
 simp only [List.any_eq_true, Bool.and_eq_true, decide_eq_true_eq];constructor
 ·rintro⟨⟨a,b,⟨d⟩⟩,hj,⟨h1,h2⟩,h3⟩
  obtain⟨a',b',⟨d'⟩⟩:=k;simp only at h1 h2 h3;subst h1;subst h2;subst h3
  exact hj
 ·intro h
  exact⟨k,h,⟨rfl,rfl⟩,rfl⟩
def kys (L:List C) (x:Ex):List C->Nat->List (Int × Int × ByteArray)->Except Nat (List (Int × Int × ByteArray))
 | [],_,ks=>.ok ks
 | v :: t,i,ks=>bnd (bnd (ev (rh (L ++ [v,iV i])) x) isK) fun k=>if kin k ks=true then .error 1600 else kys L x t (i+1) (ks ++ [k])
def wth:List C->List Ex->Except Nat (List C)
 | L,[]=>.ok L
 | L,x :: t=>bnd (ev (rh L) x) fun v=>wth (L ++ [v]) t
def one (A:Except Nat (T × Int)):Except Nat (List T × Int):=bnd A fun a=>.ok ([a.1],a.2)
def x0 (c:Co):Ex:=c.x.getD 0 (.mk 0 0 ⟨#[]⟩ [])
def x1 (c:Co):Ex:=c.x.getD 1 (.mk 0 0 ⟨#[]⟩ [])
def rn:Nat->List C->Co->Int->Except Nat (List T × Int)
 | 0,_,_,_=>.error 1108
 | n+1,L,c,r=>
  if c.k=1 then one (nT L c.p r)
  else if c.k=2 then one (nE L c.t c.f (rnL (rn n L) c.l (r - 1) []) r)
  else if c.k=3 then bnd (bnd (ev (rh L) (x0 c)) isT) fun b=>rnL (rn n L) (if b=true then c.l else c.u) r []
  else if c.k=4 then bnd (bnd (ev (rh L) (x0 c)) isL) fun l=>bnd (kys L (x1 c) l 0 []) fun _=>lp (fun i v x=>rnL (rn n (L ++ [v,iV i])) c.l x []) l 0 r []
  else bnd (wth L c.x) fun L'=>rnL (rn n L') c.l r []
theorem bnd_ok {α β:Type} {A:Except Nat α} {f:α->Except Nat β} {b:β} (h:bnd A f=.ok b):∃ a,A=.ok a/\f a=.ok b:=by
 cases A with
 | error q=>cases h
 | ok a=>exact⟨a,rfl,h⟩
theorem rnL_le {f:Co->Int->Except Nat (List T × Int)} (hf:∀ c x a,0<=x->f c x=.ok a->(a.1.length:Int)+a.2<=x/\0<=a.2):∀ (cs:List Co) (r:Int) (F:List T) (a:List T × Int),0<=r->rnL f cs r F=.ok a->(a.1.length:Int)+a.2<=F.length+r/\0<=a.2
 | [],r,F,a,hr,h=>by
  injection h with h
  subst h;exact⟨Int.le_refl _,hr⟩
 | c :: cs,r,F,a,hr,h=>by
  obtain⟨b,h1,h2⟩:=bnd_ok h;have i1:=hf c r b hr h1;have i2:=rnL_le hf cs b.2 (F ++ b.1) a i1.2 h2;rw[List.length_append] at i2;omega
theorem lp_le {f:Nat->C->Int->Except Nat (List T × Int)} (hf:∀ i v x a,0<=x->f i v x=.ok a->(a.1.length:Int)+a.2<=x/\0<=a.2):∀ (l:List C) (i:Nat) (r:Int) (F:List T) (a:List T × Int),0<=r->lp f l i r F=.ok a->(a.1.length:Int)+a.2<=F.length+r/\0<=a.2
 | [],i,r,F,a,hr,h=>by
  injection h with h
  subst h;exact⟨Int.le_refl _,hr⟩
 | c :: cs,i,r,F,a,hr,h=>by
  obtain⟨b,h1,h2⟩:=bnd_ok h;have i1:=hf i c r b hr h1;have i2:=lp_le hf cs (i+1) b.2 (F ++ b.1) a i1.2 h2;rw[List.length_append] at i2;omega
theorem rn_le:∀ (n:Nat) (L:List C) (c:Co) (r:Int) (a:List T × Int),0<=r->rn n L c r=.ok a->(a.1.length:Int)+a.2<=r/\0<=a.2
 | 0,L,c,r,a,hr,h=>by cases h
 | n+1,L,c,r,a,hr,h=>by
  have ih:∀ L c x a,0<=x->rn n L c x=.ok a->(a.1.length:Int)+a.2<=x/\0<=a.2:=fun L c x a=>rn_le n L c x a
  rw[rn] at h;split at h
  ·obtain⟨b,h1,h2⟩:=bnd_ok h
   injection h2 with h2
   subst h2;unfold nT at h1;split at h1
   ·cases h1
   ·obtain⟨s,h3,h4⟩:=bnd_ok h1
    injection h4 with h4
    subst h4;simp
    omega
  ·split at h
   ·obtain⟨b,h1,h2⟩:=bnd_ok h
    injection h2 with h2
    subst h2;unfold nE at h1;split at h1
    ·cases h1
    ·obtain⟨s,h3,h4⟩:=bnd_ok h1
     obtain⟨d,h5,h6⟩:=bnd_ok h4;injection h6 with h6
     subst h6;have:=rnL_le (ih L) c.l (r - 1) [] d (by omega) h5;simp at this ⊢
     omega
   ·split at h
    ·obtain⟨b,h1,h2⟩:=bnd_ok h
     have:=rnL_le (ih L) _ r [] a hr h2;simpa using this
    ·split at h
     ·obtain⟨l,h1,h2⟩:=bnd_ok h
      obtain⟨ks,h3,h4⟩:=bnd_ok h2;have:=lp_le (fun i v x a hx ha=>by have:=rnL_le (ih (L ++ [v,iV i])) c.l x [] a hx ha;simpa using this) l 0 r [] a hr h4;simpa using this
     ·obtain⟨L',h1,h2⟩:=bnd_ok h
      have:=rnL_le (ih L') c.l r [] a hr h2;simpa using this
end Go.Proofs.YtdolgmmldncfkaaGreatDoor.GRn
namespace Go.Proofs.YtdolgmmldncfkaaGreatDoor.GNg
open Go.RowKit Base VSm JVr GTr GEn GBu GBe GNs GNo
open VPure hiding evL
open TBase (T)
open KBase (Pt Fld Co RP RF)
def LR (R:Int->World->Option Nat->Prop) (lo B Bb:Nat) (X:Option Nat) (tv:Value) (F:List T) (w:World) (A:Except Nat (List T × Int)) (e:Ending) (w':World):Prop:=match A with
 | .ok a=>(∃ v,e=.returned v)/\Fm B Bb X tv.ownBlock w w'/\∃ X' tv',(X'=X \/ ∃ x,X'=some x/\w.heap.size<=x)/\(∀ x,X'=some x->x<w'.heap.size)/\R a.2 w' X'/\Bt lo w' Bb X' tv' (F ++ a.1)/\(tv'.ownBlock=tv.ownBlock \/ ∃ g,tv'.ownBlock=some g/\w.heap.size<=g)
 | .error q=>e=.panicked (pkE q)/\Fm B Bb X tv.ownBlock w w'
theorem ER.lr {R:Int->World->Option Nat->Prop} {lo B Bb:Nat} {X:Option Nat} {tv:Value} {F:List T} {w:World} {A:Except Nat (T × Int)} {e:Ending} {w':World} (h:ER R lo B Bb X tv F w A e w'):LR R lo B Bb X tv F w (GRn.one A) e w':=by
 cases A with
 | error q=>exact h
 | ok a=>exact h
def gl (f:Nat->Int->Except Nat (List T × Int)):Nat->Nat->Int->List T->Except Nat (List T × Int)
 | 0,_,r,F=>.ok (F,r)
 | n+1,q,r,F=>bnd (f q r) fun a=>gl f n (q+1) a.2 (F ++ a.1)
theorem gl_rnL {f:Nat->Int->Except Nat (List T × Int)} {g:Co->Int->Except Nat (List T × Int)} {cs:List Co} (hfg:∀ q (h:q<cs.length),f q=g cs[q]):∀ (n q:Nat) (x:Int) (F:List T),n+q=cs.length->gl f n q x F=GRn.rnL g (cs.drop q) x F
 | 0,q,x,F,h=>by rw[List.drop_eq_nil_of_le (by omega)];rfl
 | n+1,q,x,F,h=>by
  rw[List.drop_eq_getElem_cons (by omega:q<cs.length),gl,hfg q (by omega),GRn.rnL];congr 1
  funext a
  exact gl_rnL hfg n (q+1) a.2 (F ++ a.1) (by omega)
theorem nodes_of {K m mc lo:Nat} {w:World} {tv:Value} {F0:List T} {B Bb:Nat} {Pv:Value} {sv:Sz} {r:Int} {L:List C} {cv:Value} {cs:List Co} {nb:Nat->Nat} {f:Nat->Int->Except Nat (List T × Int)} (h:Wr K m w B Bb Pv sv r L) (hr:0<=r/\r<=65536) (hb:Bt lo w Bb Pv.ownBlock tv F0) (hFr:(F0.length:Int)+r<=65536) (hin:KBase.InL false (fun b=>b<K) w mc cv cs)
  (hnb:∀ q,q<cs.length->∃ h:nb q<sv.2.1.length,sv.2.1[nb q]=((nb (q+1):Int) - nb q)/\nb q<=100000/\nb (q+1)<=100000) (hf:∀ q x a,0<=x->f q x=.ok a->(a.1.length:Int)+a.2<=x/\0<=a.2)
  (hone:∀ q (h:q<cs.length) W Pv' x F tv' u,KBase.In false (fun b=>b<K) w mc u cs[q]->Below K w W->Wr K m W B Bb Pv' sv x L->Bt lo W Bb Pv'.ownBlock tv' F->(F.length:Int)+x<=65536->0<=x->Calls prog 54 #[ptr B,u,.int .i64 (nb q)] W fun e w'=>LR (Rs K m B Bb sv L) lo B Bb Pv'.ownBlock tv' F W (f q x) e w') :
  Calls prog 35 #[ptr B,cv,.int .i64 (nb 0)] w fun e w'=>LR (Rs K m B Bb sv L) lo B Bb Pv.ownBlock tv F0 w (gl f cs.length 0 r []) e w':=by
 have hhi:=hb.hi;have hob0:=bt_own hb;have HOB0:=hid hob0;have HF:=hid hin
 have HNB:=hid hnb;have HFF:=hid hf;have HON:=hid hone;have HW:=hid h;have HBT:=hid hb;obtain⟨T0,hT⟩ : ∃ T0,gl f cs.length 0 r []=T0:=⟨_,rfl⟩;rw[hT];have HT:=hid hT;obtain⟨a,cap,rfl,hlc,hcm,hlen,-,-⟩:=hin
 have hBl:=h.lt;clear h hb hnb hf hone hT hob0;go_enter func35,ntmps35;go_wp2_with fail
 go_loopw [2,10] (fun nm i wr=>∃ (q:Nat) (x:Int) (F:List T) (Pv' tv':Value),i=.int .i64 q/\nm=.int .i64 (nb q)/\q<=cs.length/\gl f (cs.length - q) q x F=T0/\Wr K m wr B Bb Pv' sv x L/\Bt lo wr Bb Pv'.ownBlock tv' (F0 ++ F)/\((F0 ++ F).length:Int)+x<=65536/\0<=x/\Fm B Bb Pv.ownBlock tv.ownBlock w wr/\(Pv'.ownBlock=Pv.ownBlock \/ ∃ y,Pv'.ownBlock=some y/\w.heap.size<=y)/\(tv'.ownBlock=tv.ownBlock \/ ∃ y,tv'.ownBlock=some y/\w.heap.size<=y)) (fun _ i _=>cs.length - (intOf i).toNat)
 case atStart=>exact⟨0,r,[],Pv,tv,rfl,rfl,by omega,HT.out,HW.out,by rw[List.append_nil];exact HBT.out,by rw[List.append_nil];exact hFr,hr.1,⟨fun _ _ _ _ _=>Below.refl _ _,Nat.le_refl _,fun _ _ _ _ _ _=>rfl⟩,.inl rfl,.inl rfl⟩
 case round=>
  clear HT;obtain⟨q,x,F,Pv',tv',rfl,rfl,hq,hM,hwr,hbt,hFx,hx0,hfm,hpx,htx⟩:=hrel;have HTX:=hid htx;have HWR:=hid hwr;have HFm:=hid hfm;have HPX:=hid hpx;have hob:=bt_own hbt;have hsz:=hfm.size;have bK:Below K w wr:=hfm.below K HW.out.lB HW.out.lb (fun y e=>(HW.out.xb y e).1) (fun y e=>by have:=(HOB0.out y e).1;have:=HBT.out.lob;have:=HW.out.lb;omega);by_cases hlt:q<cs.length
  ·have d0:decide ((q:Int)<(cs.length:Int))=true:=by simp;omega
   have i0:(0:Int)<=(q:Int):=by omega
   have i1:(q:Int)<(cs.length:Int):=by omega
   obtain⟨aa,cc,hsl,-,-,-,-,hLA⟩:=HF.out;cases hsl;obtain⟨g,o,u,rfl,hgK,hu,hi⟩:=hLA.elem hlt;obtain⟨mc',fv,pv,xv,lv,uv,-,rfl,-,-,hF1,hP1,hX1,hL1,hU1⟩:=hi.shape;obtain⟨fa,fcp,rfl,-⟩:=hF1;obtain⟨pa,pcp,rfl,-⟩:=hP1;obtain⟨mx,xa,xcp,rfl,-⟩:=hX1;obtain⟨la,lcp,rfl,-⟩:=hL1;obtain⟨ua,ucp,rfl,-⟩:=hU1;obtain⟨v0,v1,v2,v3,v4,v5,v6,he,c0,c1,c2,c3,c4,c5,c6⟩:=hu;simp only [Value.agg.injEq, Array.mk.injEq, List.cons.injEq, and_true] at he;obtain⟨rfl,rfl,rfl,rfl,rfl,rfl,rfl⟩:=he;have c0:=(World.cell?_of_block (w:=w) (bK.block g hgK)).trans c0;have c1:=(World.cell?_of_block (w:=w) (bK.block g hgK)).trans c1;have c2:=(World.cell?_of_block (w:=w) (bK.block g hgK)).trans c2;have c3:=(World.cell?_of_block (w:=w) (bK.block g hgK)).trans c3;have c4:=(World.cell?_of_block (w:=w) (bK.block g hgK)).trans c4;have c5:=(World.cell?_of_block (w:=w) (bK.block g hgK)).trans c5;have c6:=(World.cell?_of_block (w:=w) (bK.block g hgK)).trans c6
   obtain⟨W1,hW1⟩ : ∃ W1,wr.alloc (.cells #[.int .i64 cs[q].k,.string cs[q].t,.slice fa cs[q].f.length fcp,.slice pa cs[q].p.length pcp,.slice xa cs[q].x.length xcp,.slice la cs[q].l.length lcp,.slice ua cs[q].u.length ucp] 42)=W1:=⟨_,rfl⟩;have b1:=alB hW1;have hs1:W1.heap.size=wr.heap.size+1:=by rw[<- hW1];simp
   have hx1:=alG hW1;obtain⟨z0,z1,z2,z3,z4,z5,z6⟩:=GNo.seven_b hx1;have hlB:=HW.out.lB;have hw1:=hwr.below b1;have hBbl:=(Array.getElem?_eq_some_iff.1 hbt.box).1;have bt1:=bt_keep hbt b1.size (b1.block Bb hBbl) (fun b _ h2 _=>b1.block b h2);have cN:=HON.out q hlt W1 Pv' x (F0 ++ F) tv' _ hi (bK.trans (b1.mono (by omega))) hw1 bt1 hFx hx0;obtain⟨hz,hz1,hz2,hz3⟩:=HNB.out q hlt;have HZ1:=hid hz1;obtain⟨U,hU⟩ : ∃ U,f q x=U:=⟨_,rfl⟩;rw[hU] at cN;have hM2:bnd U (fun a=>gl f (cs.length - (q+1)) (q+1) a.2 (F ++ a.1))=T0:=by
    rw[<- hU,<- hM,show cs.length - q=(cs.length - (q+1))+1 by omega];rfl
   have HM:=hid hM2;have HUE:=hid hU;have HW1:=hid hW1;have HC:Hid (∀ W2,Fm B Bb Pv'.ownBlock tv'.ownBlock W1 W2->Fm B Bb Pv.ownBlock tv.ownBlock w W2):=by
    intro W2 h2;have hnx:∀ b,b<w.heap.size->some b≠Pv.ownBlock->some b≠Pv'.ownBlock:=by
     intro b h3 h4 e;rcases HPX.out with k|⟨y,k,hy⟩
     ·exact h4 (e.trans k)
     ·rw[k] at e
      have:=Option.some.inj e;omega
    refine⟨fun n h3 h4 h5 h6=>((HFm.out.below n h3 h4 h5 h6).trans (b1.mono (by omega))).trans (h2.below n h3 h4 (fun y e=>?_) (fun y e=>?_)),by have:=h2.size;omega,fun b h3 h4 h5 h6 h7=>?_⟩
    ·rcases HPX.out with k|⟨z,k,hz⟩
     ·exact h5 y (k ▸ e)
     ·rw[k] at e
      have:=Option.some.inj e;omega
    ·rcases HTX.out with k|⟨z,k,hz⟩
     ·exact h6 y (k ▸ e)
     ·rw[k] at e
      have:=Option.some.inj e;omega
    ·rw[h2.other b (by omega) h4 h5 (hnx b h3 h6) (fun e=>by
      rcases HTX.out with k|⟨z,k,hz⟩
      ·exact h7 (e.trans k)
      ·rw[k] at e
       have:=Option.some.inj e;omega),b1.block b (by omega),HFm.out.other b h3 h4 h5 h6 h7]
   have HOB:=hid hob;clear hLA hi hU hM hM2 hwr hbt hfm hpx htx bK b1 hx1 hw1 bt1 hW1 hz1 hob;go_wp2_with fail
   try rw[HW1.out]
   refine cN.mono ?_;intro ee W2 hA2;cases U with
   | error z=>
    obtain⟨rfl,hf2⟩:=hA2;have hT:=HM.out;subst hT;exact⟨rfl,rfl,HC.out W2 hf2⟩
   | ok aa=>
    obtain⟨⟨v8,rfl⟩,hf2,X2,tv2,hx2,hx3,⟨Pv2,hP2,hwr2⟩,hbt2,hat2⟩:=hA2;subst hP2;obtain⟨-,-,k2,-⟩:=wk_box hwr2.box;have kz:=hwr2.zc (nb q) hz;rw[HZ1.out] at kz;have j0:(0:Int)<=(nb q:Int):=by omega
    have j1:(nb q:Int)<(sv.2.1.length:Int):=by omega
    have hwp:IntKind.i64.wrap ((nb q:Int)+((nb (q+1):Int) - nb q))=nb (q+1):=by rw[IntKind.wrap_i64];omega
    have hfa:=HFF.out q x aa hx0 HUE.out;have HE:Hid (∃ (q':Nat) (x:Int) (F:List T) (Pv' tv':Value),q'=q+1/\gl f (cs.length - q') q' x F=T0/\Wr K m W2 B Bb Pv' sv x L/\Bt lo W2 Bb Pv'.ownBlock tv' (F0 ++ F)/\((F0 ++ F).length:Int)+x<=65536/\0<=x/\Fm B Bb Pv.ownBlock tv.ownBlock w W2/\(Pv'.ownBlock=Pv.ownBlock \/ ∃ y,Pv'.ownBlock=some y/\w.heap.size<=y)/\(tv'.ownBlock=tv.ownBlock \/ ∃ y,tv'.ownBlock=some y/\w.heap.size<=y)):=by
     refine⟨q+1,aa.2,F ++ aa.1,Pv2,tv2,rfl,HM.out,hwr2,by rw[<- List.append_assoc];exact hbt2,by rw[<- List.append_assoc,List.length_append];omega,hfa.2,HC.out W2 hf2,?_,?_⟩
     ·rcases hx2 with k|⟨y,k,hy⟩
      ·rcases HPX.out with k'|⟨y,k',hy⟩
       ·exact .inl (k.trans k')
       ·exact .inr ⟨y,k.trans k',hy⟩
      ·exact .inr ⟨y,k,by omega⟩
     ·rcases hat2 with k|⟨y,k,hy⟩
      ·rcases HTX.out with k'|⟨y,k',hy⟩
       ·exact .inl (k.trans k')
       ·exact .inr ⟨y,k.trans k',hy⟩
      ·exact .inr ⟨y,k,by omega⟩
    clear hwr2 hbt2 hx2 hx3 hf2 hfa cN hat2;go_wp2_with fail
    go_roundw
    case rel=>
     obtain⟨q',x',F',Pv3,tv3,rfl,h1,h2,h3,h4,h5,h6,h7⟩:=HE.out;exact⟨q+1,x',F',Pv3,tv3,by go_num,rfl,by omega,h1,h2,h3,h4,h5,h6,h7⟩
    case measure=>simp only [intOf];omega
  ·obtain rfl:q=cs.length:=by omega
   have hnlt:decide ((cs.length:Int)<(cs.length:Int))=false:=by simp
   rw[Nat.sub_self] at hM;have HM:=hid hM;have HBt:=hid hbt;clear hM hwr hbt hfm hpx htx bK hob;go_wp2_with fail
   go_end0
   have hT:=HM.out;subst hT;exact⟨⟨_,rfl⟩,HFm.out,Pv'.ownBlock,tv',HPX.out,fun y e=>(HWR.out.xb y e).2.1,⟨Pv',rfl,HWR.out⟩,HBt.out,HTX.out⟩
end Go.Proofs.YtdolgmmldncfkaaGreatDoor.GNg
namespace Go.Proofs.YtdolgmmldncfkaaGreatDoor.GN2
open Go.RowKit Base JPure JVr JVa GTr GEn GAs GBu GBe GNs GNo GNe GZp GRn GNg
open VPure hiding evL
open TBase (T)
open KBase (Pt Fld Co RP RF)
open KVp (szL szL_cons szL_nil)
def NDs (K m B Bb:Nat) (sv:Sz) (n:Nat) (L:List C) (c:Co):Prop:=∀ (W:World) (Pv:Value) (x:Int) (F:List T) (tv u:Value) (num mc lo:Nat),KBase.In false (fun b=>b<K) W mc u c->Ats sv.2.1 num [c]->Wr K m W B Bb Pv sv x L->Bt lo W Bb Pv.ownBlock tv F->B<lo->sv.1<lo->(F.length:Int)+x<=65536->0<=x ->
 Calls prog 54 #[ptr B,u,.int .i64 num] W fun e w'=>LR (Rs K m B Bb sv L) lo B Bb Pv.ownBlock tv F W (rn n L c x) e w'
theorem ats_one {Z:List Int} {n:Nat} {cs:List Co} (h:Ats Z n cs) {q:Nat} (hq:q<cs.length):Ats Z (n+szL (cs.take q)) [cs[q]]:=by
 obtain⟨P,S,rfl,rfl⟩:=h;have e:zs cs=zs (cs.take q) ++ (zs [cs[q]] ++ zs (cs.drop (q+1))):=by
  have:=zs_app (cs.take (q+1)) (cs.drop (q+1));rw[List.take_append_drop,zs_take hq] at this;rw[this,zs_cons,zs_nil];simp
 refine⟨P ++ zs (cs.take q),zs (cs.drop (q+1)) ++ S,?_,?_⟩
 ·rw[e];simp
 ·simp only [List.length_append, zs_len]
theorem nodes_c {K m B Bb:Nat} {sv:Sz} {n:Nat} {L:List C} {cs:List Co} (hd:∀ d ∈ cs,NDs K m B Bb sv n L d) (hZ:sv.2.1.length<=50000) {w:World} {Pv tv cv:Value} {r:Int} {F:List T} {num mc lo:Nat} (hin:KBase.InL false (fun b=>b<K) w mc cv cs) (ha:Ats sv.2.1 num cs) (h:Wr K m w B Bb Pv sv r L) (hb:Bt lo w Bb Pv.ownBlock tv F) (hBlo:B<lo) (hzl:sv.1<lo) (hF:(F.length:Int)+r<=65536) (hr:0<=r) :
  Calls prog 35 #[ptr B,cv,.int .i64 num] w fun e w'=>LR (Rs K m B Bb sv L) lo B Bb Pv.ownBlock tv F w (rnL (rn n L) cs r []) e w':=by
 obtain⟨f,hf⟩ : ∃ f:Nat->Int->Except Nat (List T × Int),f=fun q x=>if h:q<cs.length then rn n L cs[q] x else .error 0:=⟨_,rfl⟩
 have hfq:∀ q (h:q<cs.length),f q=rn n L cs[q]:=fun q h=>by rw[hf];funext x;exact dif_pos h
 have hg:=gl_rnL hfq cs.length 0 r [] (by omega);rw[List.drop_zero] at hg;have hal:=ha.len;have key:=nodes_of (f:=f) (nb:=fun q=>num+szL (cs.take q)) h ⟨hr,by omega⟩ hb hF hin (fun q hq=>by
   obtain⟨h1,h2⟩:=ha.get hq;refine⟨h1,?_,by omega,by have:=sz_take_le cs (q+1);omega⟩;rw[h2,sz_take hq];omega) (fun q x a hx e=>by
   by_cases hq:q<cs.length
   ·rw[hfq q hq] at e
    exact rn_le n L _ x a hx e
   ·rw[hf] at e
    simp only [dif_neg hq] at e;cases e) (fun q hq W Pv' x F' tv' u hu hbK hw hbt hFx hx=>by
   rw[hfq q hq];exact hd cs[q] (List.getElem_mem hq) W Pv' x F' tv' u _ mc lo (hu.keep (fun b hb _=>hbK.block b hb)) (ats_one ha hq) hw hbt hBlo hzl hFx hx)
 rw[hg] at key;simpa [szL_nil] using key
theorem text_d {K m B Bb:Nat} {sv:Sz} {n:Nat} {L:List C} {c:Co} (hk:c.k=1) (hg:∀ j (h:j<c.p.length),c.p[j].b=true->gd c.p[j].e/\ops okOp c.p[j].e):NDs K m B Bb sv (n+1) L c:=by
 intro W Pv x F tv u num mc lo hin ha hw hb hBlo hzl hF hx;obtain⟨mc',fv,pv,xv,lv,uv,-,rfl,-,-,hF1,hP1,hX1,hL1,hU1⟩:=hin.shape;have e:rn (n+1) L c x=GRn.one (nT L c.p x):=by rw[rn,if_pos hk]
 rw[e,hk];by_cases h0:x=0
 ·subst h0
  exact (text_no hw).mono fun e w' h=>ER.lr h
 ·exact (text_ok hw ⟨by omega,by omega⟩ hb hBlo hzl (by omega) hP1 hg).mono fun e w' h=>ER.lr h
theorem elem_d {K m B Bb:Nat} {sv:Sz} {n:Nat} {L:List C} {c:Co} (hZ:sv.2.1.length<=50000) (hk:c.k=2) (hg:∀ j (h:j<c.f.length),c.f[j].b=true->gd c.f[j].e/\ops okOp c.f[j].e) (hfn:c.f.length<=4096) (hsz:∀ n,ats L c.f=.ok n->n.length<=4096/\∀ t ∈ n,t.1.size<=140737488351232/\t.2.size<=140737488351232) (hd:∀ d ∈ c.l,NDs K m B Bb sv n L d):NDs K m B Bb sv (n+1) L c:=by
 intro W Pv x F tv u num mc lo hin ha hw hb hBlo hzl hF hx;obtain⟨mc',fv,pv,xv,lv,uv,-,rfl,hk2,ht,hF1,hP1,hX1,hL1,hU1⟩:=hin.shape;have e:rn (n+1) L c x=GRn.one (nE L c.t c.f (rnL (rn n L) c.l (x - 1) []) x):=by rw[rn,if_neg (by omega),if_pos hk]
 rw[e,hk];by_cases h0:x=0
 ·subst h0
  exact (elem_no hw).mono fun e w' h=>ER.lr h
 ·have hak:=(ha.kids (q:=0) (by simp)).1
  simp only [List.take_zero, szL_nil, Nat.add_zero, List.getElem_cons_zero] at hak;have hal:=ha.len;refine (elem_ok hw ⟨by omega,by omega⟩ hb hBlo hzl (by omega) ⟨by omega,by omega⟩ ht hF1 hg hfn hsz (fun W1 hw1 hbt hbK=>?_)).mono fun e w' h=>ER.lr h
  have key:=nodes_c hd hZ (hL1.keep (w':=W1) (fun b hb _=>hbK.block b hb)) hak hw1 hbt hw1.lt hw1.zb.1 (by simp;omega) (by omega);refine Calls.mono key fun e w' h=>?_
  cases hA:rnL (rn n L) c.l (x - 1) [] with
  | error q=>rw[hA] at h;exact h
  | ok a=>
   rw[hA] at h;have hle:=rnL_le (fun c x a hx ha=>rn_le n L c x a hx ha) c.l (x - 1) [] a (by omega) hA;obtain⟨h1,h2,X',tv',h3,h4,h5,h6,-⟩:=h;exact⟨by simp at hle;omega,h1,h2,X',tv',h3,h4,h5,h6⟩
end Go.Proofs.YtdolgmmldncfkaaGreatDoor.GN2
namespace Go.Proofs.YtdolgmmldncfkaaGreatDoor.GWf
open Go.RowKit Base VPure
theorem ft_fm {c:C} {d q:Int} (h:Fault.ft c d q=0):Fault.fm c=true:=by
 unfold Fault.ft at h;by_cases h1:16384<q
 ·rw[if_pos h1] at h;cases h
 rw[if_neg h1] at h;by_cases h2:24<d
 ·rw[if_pos h2] at h;cases h
 rw[if_neg h2] at h;by_cases h3:c.k<1\/6<c.k
 ·rw[if_pos h3] at h;cases h
 rw[if_neg h3] at h;by_cases h4:Fault.fm c=true
 ·exact h4
 ·rw[if_neg h4] at h;cases h
theorem ms_fm:∀ (r:List (Nat × C)) (D k:Nat),(Measure.ms D k r).2.2=0->∀ p ∈ r,Fault.fm p.2=true
 | [],_,_,_,p,hp=>absurd hp (by simp)
 | (d,c) :: r,D,k,h,p,hp=>by
  rw[Measure.ms] at h;by_cases hf:Fault.ft c d (k+1:Nat)=0
  ·rw[if_pos hf] at h
   rcases List.mem_cons.1 hp with rfl|hp
   ·exact ft_fm hf
   ·exact ms_fm r _ _ h p hp
  ·rw[if_neg hf] at h;exact (hf h).elim
theorem fm_six {c:C} (h:Fault.fm c=true) (h6:c.k=6):c.n.length<=c.l.length:=by
 unfold Fault.fm Names.nmb at h;simp only [Bool.and_eq_true, Bool.or_eq_true, Bool.not_eq_true', decide_eq_false_iff_not, decide_eq_true_eq] at h;rcases h.2 with h|h
 ·exact (h h6).elim
 ·omega
theorem wfL_of:∀ (l:List C) (d:Nat),(∀ p ∈ Walk.plL d l,Fault.fm p.2=true)->wfL l
 | [],_,_=>by rw[wfL];trivial
 | .mk k b i s n l :: t,d,h=>by
  rw[Walk.plL] at h;rw[wfL];refine⟨⟨fun h6=>fm_six (h _ (List.mem_append_left _ (List.mem_cons_self ..))) h6,wfL_of l (d+1) fun p hp=>h p (List.mem_append_left _ (List.mem_cons_of_mem _ hp))⟩,wfL_of t d fun p hp=>h p (List.mem_append_right _ hp)⟩
theorem code_wf {c:C} (h:(Measure.ms 0 0 (Walk.pl 1 c)).2.2=0):wf c:=by
 have hm:=ms_fm _ _ _ h;obtain⟨k,b,i,s,n,l⟩:=c;rw[Walk.pl] at hm;exact⟨fun h6=>fm_six (hm _ (List.mem_cons_self ..)) h6,wfL_of l _ fun p hp=>hm p (List.mem_cons_of_mem _ hp)⟩
end Go.Proofs.YtdolgmmldncfkaaGreatDoor.GWf

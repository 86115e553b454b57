import Derived.Test.YtdolgmmldncfkaaGreatDoorPJ17
import Derived.Test.YtdolgmmldncfkaaGreatDoorPJ32
import Derived.Test.YtdolgmmldncfkaaGreatDoorPJ33
import Derived.Test.YtdolgmmldncfkaaGreatDoorPJ35
import Derived.Test.YtdolgmmldncfkaaGreatDoorPJ43
open Go.Proofs.Tryz
set_option linter.unusedVariables false
set_option maxRecDepth 20000
set_option maxHeartbeats 3200000
namespace Go.Proofs.YtdolgmmldncfkaaGreatDoor.GKl
open Go.RowKit EPure KBase KAr KEx KLe KNp KNd JPure JVa JGd JGe
open VPure hiding evL
open KVp (szL szL_cons szL_nil)
def irL:List Ex->Prop
 | []=>True
 | .mk o i s l :: t=>(rg i/\irL l)/\irL t
def ir (x:Ex):Prop:=rg x.i/\irL x.l
theorem bh_all:∀ (l:List Ex) (r:Int),-1<=r->0<=SBe.bhL KSh.rlf l r->irL l->gdL l/\opsL okOp l/\xrL l
 | [],_,_,_,_=>by rw[gdL,opsL,xrL];exact⟨trivial,trivial,trivial⟩
 | .mk o i s l :: t,r,hr,h,hi=>by
  rw[SBe.bhL] at h;rw[irL] at hi;by_cases hc:r<=0\/(l.length:Int)≠SFit.kd o\/SFit.ft KSh.rlf o i s=false
  ·rw[if_pos hc] at h
   have:=(SBe.bhL_le KSh.rlf _ t (-1) (Nat.le_refl _) (by omega)).2;omega
  ·rw[if_neg hc] at h
   have hr0:0<r:=by
    rcases Int.lt_or_le 0 r with h|h
    ·exact h
    ·exact (hc (.inl h)).elim
   have hk:(l.length:Int)=SFit.kd o:=by
    by_cases e:(l.length:Int)=SFit.kd o
    ·exact e
    ·exact (hc (.inr (.inl e))).elim
   have hf:SFit.ft KSh.rlf o i s=true:=by
    cases e:SFit.ft KSh.rlf o i s
    ·exact (hc (.inr (.inr e))).elim
    ·rfl
   have b1:=SBe.bhL_le KSh.rlf _ l (r - 1) (Nat.le_refl _) (by omega);have b2:=SBe.bhL_le KSh.rlf _ t _ (Nat.le_refl _) b1.1;obtain⟨g1,g2,g3⟩:=bh_all l (r - 1) (by omega) (by omega) hi.1.2;obtain⟨k1,k2,k3⟩:=bh_all t _ b1.1 h hi.2;rw[gdL,opsL,xrL];refine⟨⟨⟨hk,trivial,g1⟩,k1⟩,⟨⟨?_,g2⟩,k2⟩,⟨hi.1.1,fun h5=>?_,g3⟩,k3⟩
   ·unfold SFit.kd at hk
    unfold okOp;repeat' split at hk
    all_goals omega
   ·subst h5
    have e:SFit.ft KSh.rlf 5 i s=((i == 0) && STx.tg s):=rfl;rw[e] at hf;simp only [Bool.and_eq_true] at hf;exact hf.2
theorem rs_all {x:Ex} (h:KSh.rsv x=true) (hi:ir x):gd x/\ops okOp x/\xr x:=by
 obtain⟨o,i,s,l⟩:=x;have:=bh_all [.mk o i s l] 1024 (by omega) (by simpa [KSh.rsv] using h) (by rw[irL,irL];exact⟨hi,trivial⟩);rw[gdL,opsL,xrL] at this;exact⟨this.1.1,this.2.1.1,this.2.2.1⟩
def icL:List Co->Prop
 | []=>True
 | .mk k t f p x l u :: cs=>((∀ y ∈ xsC (.mk k t f p x l u),ir y)/\icL l/\icL u)/\icL cs
theorem icL_cons {c:Co} {t:List Co}:icL (c :: t) ↔ ((∀ y ∈ xsC c,ir y)/\icL c.l/\icL c.u)/\icL t:=by
 obtain⟨k,t',f,p,x,l,u⟩:=c;rw[icL];exact Iff.rfl
def oks:Nat->Nat->Co->Prop
 | 0,_,_=>False
 | n+1,s,c=>(∀ x ∈ xsC c,gd x/\ops okOp x/\xr x)/\c.f.length<=4096/\s<=64 /\
  (c.k=1\/(c.k=2/\KFd.fl1 none c.f=true/\∀ d ∈ c.l,oks n s d)\/(c.k=3/\c.x.length=1/\(∀ d ∈ c.l,oks n s d)/\∀ d ∈ c.u,oks n s d)\/(c.k=4/\c.x.length=2/\s+2<=64/\∀ d ∈ c.l,oks n (s+2) d)\/(c.k=5/\s+c.x.length<=64/\∀ d ∈ c.l,oks n (s+c.x.length) d))
theorem own_zero {c:Co} {r s e l:Int} (h:own c r s e l=0):0<=r/\(ent c s e l).1.1<=64/\(ent c s e l).2=true/\(xsC c).all KSh.rsv=true:=by
 unfold own at h;by_cases h1:r<0
 ·rw[if_pos h1] at h;cases h
 rw[if_neg h1] at h;by_cases h2:deep (ent c s e l).1.1 (ent c s e l).1.2.1 (ent c s e l).1.2.2=true
 ·rw[if_pos h2] at h;cases h
 rw[if_neg h2] at h;by_cases h3:(ent c s e l).2=false
 ·rw[if_pos h3] at h;cases h
 rw[if_neg h3] at h;by_cases h4:(xsC c).all KSh.rsv=false
 ·rw[if_pos h4] at h;cases h
 refine⟨by omega,?_,by simpa using h3,by simpa using h4⟩;unfold deep at h2;simp only [Bool.or_eq_true, decide_eq_true_eq, not_or] at h2;omega
theorem nd_oks:∀ (n:Nat) (cs:List Co) (r:Int) (s:Nat) (e l:Int),szL cs<=n->(ndL cs r s e l).2=0->r<=4096->s<=64->icL cs->∀ c ∈ cs,oks n s c:=by
 intro n;induction n with
 | zero=>
  intro cs r s e l hz h hr hs hi c hc;cases cs with
  | nil=>cases hc
  | cons d t=>rw[szL_cons] at hz;omega
 | succ n ih=>
  intro cs;induction cs with
  | nil=>intro r s e l hz h hr hs hi c hc;cases hc
  | cons d t iht=>
   intro r s e l hz h hr hs hi c hc;rw[szL_cons] at hz;rw[icL_cons] at hi;rw[ndL_cons] at h;by_cases h1:(ndL [d] r s e l).2≠0
   ·rw[if_pos h1] at h;exact (h1 h).elim
   rw[if_neg h1] at h;have h1':(ndL [d] r s e l).2=0:=by omega
   have h1n:=h1';rw[ndL_one] at h1n;by_cases o1:own d (lft d r) s e l≠0
   ·rw[if_pos o1] at h1n;exact (o1 h1n).elim
   rw[if_neg o1] at h1n;obtain⟨z1,z2,z3,z4⟩:=own_zero (c:=d) (r:=lft d r) (s:=s) (e:=e) (l:=l) (by omega);by_cases o2:(ndL d.l (lft d r) (ent d s e l).1.1 (ent d s e l).1.2.1 (ent d s e l).1.2.2).2≠0
   ·rw[if_pos o2] at h1n;exact (o2 h1n).elim
   rw[if_neg o2] at h1n;have o2':(ndL d.l (lft d r) (ent d s e l).1.1 (ent d s e l).1.2.1 (ent d s e l).1.2.2).2=0:=by omega
   have hlr:lft d r<=r - (1+d.f.length+d.p.length+d.x.length):=(KPi.bq_le _ (xsC d) _ (Nat.le_refl _)).1;have r1:=ndL_room _ d.l (lft d r) (ent d s e l).1.1 (ent d s e l).1.2.1 (ent d s e l).1.2.2 (Nat.le_refl _) o2' z1;rcases List.mem_cons.1 hc with rfl|hc
   ·have hx:∀ x ∈ xsC c,gd x/\ops okOp x/\xr x:=fun x hx=>rs_all (List.all_eq_true.1 z4 x hx) (hi.1.1 x hx)
    have kl:=ih c.l (lft c r);have ku:=ih c.u (ndL c.l (lft c r) (ent c s e l).1.1 (ent c s e l).1.2.1 (ent c s e l).1.2.2).1;rw[oks];refine⟨hx,by omega,hs,?_⟩;unfold ent at z2 z3 o2' h1n;by_cases k1:c.k=1
    ·exact .inl k1
    rw[if_neg k1] at z2 z3 o2' h1n;by_cases k2:c.k=2
    ·rw[if_pos k2] at z2 z3 o2' h1n
     simp only [Bool.and_eq_true] at z3;exact .inr (.inl ⟨k2,z3.1.2,kl s _ _ (by omega) o2' (by omega) hs hi.1.2.1⟩)
    rw[if_neg k2] at z2 z3 o2' h1n;by_cases k3:c.k=3
    ·rw[if_pos k3] at z2 z3 o2' h1n
     simp only [Bool.and_eq_true, beq_iff_eq] at z3;unfold ent at ku r1;rw[if_neg k1,if_neg k2,if_pos k3] at ku r1;exact .inr (.inr (.inl ⟨k3,by omega,kl s _ _ (by omega) o2' (by omega) hs hi.1.2.1,ku s _ _ (by omega) h1n (by omega) hs hi.1.2.2⟩))
    rw[if_neg k3] at z2 z3 o2' h1n;by_cases k4:c.k=4
    ·rw[if_pos k4] at z2 z3 o2' h1n
     simp only [Bool.and_eq_true, beq_iff_eq] at z3;dsimp only at z2
     exact .inr (.inr (.inr (.inl ⟨k4,by omega,by omega,kl (s+2) _ _ (by omega) o2' (by omega) (by omega) hi.1.2.1⟩)))
    rw[if_neg k4] at z2 z3 o2' h1n;by_cases k5:c.k=5
    ·rw[if_pos k5] at z2 z3 o2' h1n
     dsimp only at z2
     exact .inr (.inr (.inr (.inr ⟨k5,by omega,kl (s+c.x.length) _ _ (by omega) (by rw[Int.natCast_add];exact o2') (by omega) (by omega) hi.1.2.1⟩)))
    ·rw[if_neg k5] at z3;cases z3
   ·have r2:=ndL_room _ [d] r s e l (Nat.le_refl _) h1' (by omega)
    exact iht _ s e l (by omega) h (by omega) hs hi.2 c hc
theorem chk_oks {cs:List Co} (h:chk cs=0) (hi:icL cs):∀ c ∈ cs,oks (szL cs) 1 c:=nd_oks _ cs 4096 1 0 0 (Nat.le_refl _) h (by omega) (by omega) hi
end Go.Proofs.YtdolgmmldncfkaaGreatDoor.GKl
namespace Go.Proofs.YtdolgmmldncfkaaGreatDoor.GAn
open Go.RowKit Base EPure KBase KEx JPure JGd JGe GPl GTr GAt GAs GNs GRn GN2 GN4 GN5 GKl
open VPure hiding evL
def gds (L:List C):Prop:=∀ c ∈ L,Gd c
theorem gds.rh {L:List C} (h:gds L):∀ (j:Int) c,rh L j=some c->Gd c:=by
 intro j c hj;unfold GPl.rh at hj;split at hj
 ·exact h c (List.mem_of_getElem? hj)
 ·cases hj
theorem gds.app {L N:List C} (h:gds L) (k:gds N):gds (L ++ N):=fun c hc=>(List.mem_append.1 hc).elim (h c) (k c)
theorem Gd.mem {c d:C} (h:Gd c) (hd:d ∈ c.l):Gd d:=by
 obtain⟨q,hq,rfl⟩:=List.getElem_of_mem hd;have:=Gd.sub h hq;rwa [List.getD_eq_getElem?_getD,List.getElem?_eq_getElem hq] at this
theorem mem_f {c:Co} {j:Nat} (h:j<c.f.length) (hb:c.f[j].b=true):c.f[j].e ∈ xsC c:=by
 unfold xsC ex1;refine List.mem_append_left _ (List.mem_map.2 ⟨c.f[j],List.mem_filter.2 ⟨List.getElem_mem h,hb⟩,rfl⟩)
theorem mem_p {c:Co} {j:Nat} (h:j<c.p.length) (hb:c.p[j].b=true):c.p[j].e ∈ xsC c:=by
 unfold xsC ex2;refine List.mem_append_right _ (List.mem_append_left _ (List.mem_map.2 ⟨c.p[j],List.mem_filter.2 ⟨List.getElem_mem h,hb⟩,rfl⟩))
theorem mem_x {c:Co} {y:Ex} (h:y ∈ c.x):y ∈ xsC c:=List.mem_append_right _ (List.mem_append_right _ h)
theorem atr_sz {L:List C} (hL:gds L) {p:ByteArray} {b:Bool} {x:Ex} (hp:b=false->STx.tg p=true) (hx:b=true->xr x) {a:ByteArray × Bool} (h:atr L p b x=.ok a):a.1.size<=4096:=by
 unfold atr at h;by_cases hb:b=true
 ·rw[if_pos hb] at h
  obtain⟨v,h1,h2⟩:=bnd_ok h;have hg:=ev_gd hL.rh (hx hb) h1;unfold aV at h2;by_cases k1:v.k=1
  ·rw[if_pos k1] at h2;injection h2 with h2;rw[<- h2];decide
  rw[if_neg k1] at h2;by_cases k2:v.k=2
  ·rw[if_pos k2] at h2;injection h2 with h2;rw[<- h2];exact Nat.zero_le _
  rw[if_neg k2] at h2;obtain⟨t,h3,h4⟩:=bnd_ok h2;injection h4 with h4
  rw[<- h4];exact tg_size (txt_tg hg h3)
 ·rw[if_neg hb] at h
  injection h with h
  rw[<- h];exact tg_size (hp (by simpa using hb))
theorem ats_sz {L:List C} (hL:gds L):∀ (z:Option ByteArray) (f:List Fld),KFd.fl1 z f=true->(∀ j (h:j<f.length),f[j].b=true->xr f[j].e)->∀ n,ats L f=.ok n->n.length<=f.length/\∀ t ∈ n,t.1.size<=4096/\t.2.size<=4096
 | _,[],_,_,n,h=>by
  rw[ats] at h;injection h with h
  rw[<- h];exact⟨Nat.le_refl _,fun t ht=>absurd ht (by simp)⟩
 | z,c :: t,hf,hx,n,h=>by
  rw[KFd.fl1] at hf;simp only [Bool.and_eq_true] at hf;rw[ats] at h;obtain⟨a,h1,h2⟩:=bnd_ok h;obtain⟨r,h3,h4⟩:=bnd_ok h2;obtain⟨i1,i2⟩:=ats_sz hL _ t hf.2 (fun j hj=>by have:=hx (j+1) (by simp;omega);simpa using this) r h3;have hn:c.n.size<=4096:=by
   have:=hf.1.1;unfold UBase.word at this;simp only [Bool.and_eq_true, decide_eq_true_eq] at this;omega
  have ha:=atr_sz hL (fun hb=>by
   have:=hf.1.2.2.2;unfold KSh.vOk at this;rw[hb] at this;simp only [Bool.false_eq_true, if_false, Bool.and_eq_true] at this;exact this.1) (fun hb=>hx 0 (by simp) hb) h1
  injection h4 with h4
  rw[<- h4];by_cases e:a.2=true
  ·rw[if_pos e]
   refine⟨by simpa using i1,fun u hu=>?_⟩;rcases List.mem_cons.1 hu with rfl|hu
   ·exact⟨hn,ha⟩
   ·exact i2 u hu
  ·rw[if_neg e]
   exact⟨by simp;omega,i2⟩
theorem wth_gd:∀ {xs:List Ex} {L L':List C},gds L->(∀ x ∈ xs,xr x)->wth L xs=.ok L'->gds L'
 | [],L,L',hL,_,h=>by
  rw[wth] at h;injection h with h
  rw[<- h];exact hL
 | x :: t,L,L',hL,hx,h=>by
  rw[wth] at h;obtain⟨v,h1,h2⟩:=bnd_ok h;refine wth_gd (hL.app fun c hc=>?_) (fun y hy=>hx y (List.mem_cons_of_mem _ hy)) h2;rw[List.mem_singleton.1 hc];exact ev_gd hL.rh (hx x (List.mem_cons_self ..)) h1
theorem nds_all {K m B Bb:Nat} {sv:Sz} (hZ:sv.2.1.length<=50000):∀ (n:Nat) (L:List C) (c:Co),oks n L.length c->gds L->0<L.length->NDs K m B Bb sv n L c:=by
 intro n;induction n with
 | zero=>intro L c h;rw[oks] at h;exact h.elim
 | succ n ih=>
  intro L c h hL h0;rw[oks] at h;obtain⟨hx,hf,hs,h⟩:=h;rcases h with k|⟨k,hfl,hl⟩|⟨k,hn,hl,hu⟩|⟨k,hn,h2,hl⟩|⟨k,h2,hl⟩
  ·exact text_d k (fun j hj hb=>⟨(hx _ (mem_p hj hb)).1,(hx _ (mem_p hj hb)).2.1⟩)
  ·refine elem_d hZ k (fun j hj hb=>⟨(hx _ (mem_f hj hb)).1,(hx _ (mem_f hj hb)).2.1⟩) hf (fun r hr=>?_) (fun d hd=>ih L d (hl d hd) hL h0)
   obtain⟨i1,i2⟩:=ats_sz hL none c.f hfl (fun j hj hb=>(hx _ (mem_f hj hb)).2.2) r hr;exact⟨by omega,fun t ht=>⟨by have:=(i2 t ht).1;omega,by have:=(i2 t ht).2;omega⟩⟩
  ·obtain⟨y,hy⟩ : ∃ y,c.x=[y]:=List.length_eq_one_iff.1 hn
   have hg:=hx y (mem_x (by rw[hy];simp));exact choose_d hZ k hy ⟨hg.1,hg.2.1⟩ (fun d hd=>ih L d (hl d hd) hL h0) (fun d hd=>ih L d (hu d hd) hL h0)
  ·obtain⟨y0,y1,hy⟩ : ∃ y0 y1,c.x=[y0,y1]:=by
    match hc:c.x with
    | []=>rw[hc] at hn;simp at hn
    | [a]=>rw[hc] at hn;simp at hn
    | [a,b]=>exact⟨a,b,rfl⟩
    | a :: b :: d :: t=>rw[hc] at hn;simp at hn
   have hg0:=hx y0 (mem_x (by rw[hy];simp));have hg1:=hx y1 (mem_x (by rw[hy];simp));have hlg:∀ l,bnd (ev (rh L) y0) isL=.ok l->l.length<=16384/\gds l:=fun l h=>by
    obtain⟨v,e1,e2⟩:=bnd_ok h;have hv:=ev_gd hL.rh hg0.2.2 e1;unfold isL at e2;by_cases k5:v.k=5
    ·rw[if_pos k5] at e2
     injection e2 with e2
     subst e2;exact⟨hv.self.2.2.2,fun d hd=>Gd.mem hv hd⟩
    ·rw[if_neg k5] at e2;cases e2
   refine loop_d hZ k hy ⟨hg0.1,hg0.2.1⟩ ⟨hg1.1,hg1.2.1⟩ (fun l h=>⟨by have:=(hlg l h).1;omega,fun d hd=>Gd.wf ((hlg l h).2 d hd)⟩) (by omega) h0 (fun l q hq h d hd=>ih _ d ?_ (hL.app ?_) (by simp))
   ·have:=hl d hd
    simpa using this
   ·have hq':=(hlg l h).1
    intro v hv;rcases List.mem_cons.1 hv with rfl|hv
    ·exact (hlg l h).2 _ (List.getElem_mem hq)
    ·rw[List.mem_singleton.1 hv]
     exact gd_int ⟨by omega,by omega⟩
  ·refine with_d hZ k (fun j hj=>⟨(hx _ (mem_x (List.getElem_mem hj))).1,(hx _ (mem_x (List.getElem_mem hj))).2.1⟩) (by omega) h0 (fun N hN d hd=>ih _ d ?_ (wth_gd hL (fun x hxx=>(hx x (mem_x hxx)).2.2) hN) (by rw[List.length_append];omega))
   obtain⟨N',e,hN'⟩:=GWi.wth_app hN;have:N=N':=List.append_cancel_left e;rw[this,List.length_append,hN'];exact hl d hd
end Go.Proofs.YtdolgmmldncfkaaGreatDoor.GAn
namespace Go.Proofs.YtdolgmmldncfkaaGreatDoor.GIr
open Go.RowKit Base EPure KEx JPure JGd JGe JEr GTr GAt GAs GTx GNo GNe GRn GKl GAn
open VPure hiding evL
open KBase (Pt Fld Co)
open TBase (T)
open Walk (pl plL)
theorem in_rg {S:Nat->Prop} {w:World}:∀ (m:Nat) (v:Value) (c:C) (d:Nat),Base.In false S w m v c->∀ p ∈ pl d c,rg p.2.i:=by
 intro m;induction m with
 | zero=>intro v c d h;rw[Base.In] at h;exact h.elim
 | succ m ih=>
  intro v c d h p hp;obtain⟨k,b,i,s,n,l⟩:=c;obtain⟨nv,lv,-,-,hi,-,-,a,cap,-,-,-,-,-,hL⟩:=in_iff.1 h;rw[pl] at hp;rcases List.mem_cons.1 hp with rfl|hp
  ·exact hi
  ·have hl:∀ (t:List C),(∀ c ∈ t,c ∈ l)->∀ p ∈ plL (d+1) t,rg p.2.i:=by
    intro t;induction t with
    | nil=>intro _ p hp;rw[plL] at hp;cases hp
    | cons c t iht=>
     intro ht p hp;rw[Walk.plL_cons] at hp;rcases List.mem_append.1 hp with hp|hp
     ·obtain⟨j,hj,e⟩:=List.mem_iff_getElem.1 (ht c (by simp))
      obtain⟨g,o,u,-,-,-,hin⟩:=elem_at hL hj;rw[e] at hin
      exact ih u c (d+1) hin p hp
     ·exact iht (fun c hc=>ht c (by simp [hc])) p hp
   exact hl l (fun _ h=>h) p hp
theorem in_gd {S:Nat->Prop} {w:World} {m:Nat} {v:Value} {c:C} (h:Base.In false S w m v c) (hc:code c=0):Gd c:=⟨hc,in_rg m v c 1 h⟩
theorem in_ir {S:Nat->Prop} {w:World}:∀ (m:Nat) (v:Value) (x:Ex),XBase.In false S w m v x->ir x:=by
 intro m;induction m with
 | zero=>intro v c h;rw[XBase.In] at h;exact h.elim
 | succ m ih=>
  intro v x h;obtain⟨o,i,s,l⟩:=x;obtain⟨lv,-,-,hi,-,a,cap,-,-,-,-,-,hL⟩:=XBase.in_iff.1 h;refine⟨hi,?_⟩;have hl:∀ (t:List Ex),(∀ c ∈ t,c ∈ l)->irL t:=by
   intro t;induction t with
   | nil=>intro _;rw[irL];exact trivial
   | cons c t iht=>
    intro ht;obtain⟨j,hj,e⟩:=List.mem_iff_getElem.1 (ht c (by simp));obtain⟨g,o',u,-,-,-,hin⟩:=XBase.elem_at hL hj;rw[e] at hin
    have:=ih u c hin
    obtain⟨o2,i2,s2,l2⟩:=c;rw[irL];exact⟨this,iht fun c hc=>ht c (by simp [hc])⟩
  exact hl l fun _ h=>h
theorem xs_ir {S:Nat->Prop} {w:World} {m:Nat} {v:Value} {c:Co} (h:KBase.In false S w m v c):∀ y ∈ xsC c,ir y:=by
 obtain⟨m',fv,pv,xv,lv,uv,-,-,-,-,hF,hP,⟨nx,hX⟩,-,-⟩:=h.shape;obtain⟨a1,c1,-,-,-,-,-,hLF⟩:=hF;obtain⟨a2,c2,-,-,-,-,-,hLP⟩:=hP;obtain⟨a3,c3,-,-,-,-,-,hLX⟩:=hX;intro y hy;unfold xsC ex1 ex2 at hy;rcases List.mem_append.1 hy with hy|hy
 ·obtain⟨f,hf,rfl⟩:=List.mem_map.1 hy
  obtain⟨j,hj,e⟩:=List.mem_iff_getElem.1 (List.mem_filter.1 hf).1;obtain⟨g,o,u,-,-,-,mm,e0,e1,e2,e3,-,-,-,hx,-⟩:=hLF.elem hj;rw[e] at hx;exact in_ir _ _ _ hx
 ·rcases List.mem_append.1 hy with hy|hy
  ·obtain⟨f,hf,rfl⟩:=List.mem_map.1 hy
   obtain⟨j,hj,e⟩:=List.mem_iff_getElem.1 (List.mem_filter.1 hf).1;obtain⟨g,o,u,-,-,-,mm,e0,e1,e2,e3,-,-,hx⟩:=hLP.elem hj;rw[e] at hx;exact in_ir _ _ _ hx
  ·obtain⟨j,hj,rfl⟩:=List.mem_iff_getElem.1 hy
   obtain⟨g,o,u,-,-,-,hx⟩:=XBase.elem_at hLX hj;exact in_ir _ _ _ hx
theorem ic_of {S:Nat->Prop} {w:World}:∀ (m:Nat) (v:Value) (cs:List Co),KBase.InL false S w m v cs->icL cs:=by
 intro m;induction m with
 | zero=>
  intro v cs h;obtain⟨a,cap,-,-,-,-,-,hL⟩:=h;cases cs with
  | nil=>rw[icL];trivial
  | cons c t=>
   obtain⟨g,o,u,-,-,-,hi⟩:=hL.elem (q:=0) (by simp);exact (KBase.in_zero hi).elim
 | succ m ih=>
  intro v cs h;obtain⟨a,cap,-,-,-,-,-,hL⟩:=h;have hl:∀ (t:List Co),(∀ c ∈ t,c ∈ cs)->icL t:=by
   intro t;induction t with
   | nil=>intro _;rw[icL];trivial
   | cons c t iht=>
    intro ht;obtain⟨j,hj,e⟩:=List.mem_iff_getElem.1 (ht c (by simp));obtain⟨g,o',u,-,-,-,hin⟩:=hL.elem hj;rw[e] at hin
    obtain⟨m',fv,pv,xv,lv,uv,hm,-,-,-,-,-,-,h1,h2⟩:=hin.shape;obtain rfl:m=m':=by omega
    rw[icL_cons];exact⟨⟨xs_ir hin,ih _ _ h1,ih _ _ h2⟩,iht fun c hc=>ht c (by simp [hc])⟩
  exact hl cs fun _ h=>h
theorem isL0 (c:C):N0 (isL c):=by unfold isL;split <;> first | exact ok0 _ | exact er0 (by decide)
theorem isK0 (c:C):N0 (isK c):=by unfold isK;split <;> first | exact ok0 _ | exact er0 (by decide)
theorem aV0 (c:C):N0 (aV c):=by
 unfold aV;split
 ·exact ok0 _
 ·split
  ·exact ok0 _
  ·exact bnd0 (txt0 c) fun _=>ok0 _
theorem atr0 {L:List C} {p:ByteArray} {b:Bool} {x:Ex} (hg:b=true->gd x):N0 (atr L p b x):=by
 unfold atr;split
 ·rename_i h;exact bnd0 (ev0 (hg h)) aV0
 ·exact ok0 _
theorem tpc0 {L:List C} {p:ByteArray} {b:Bool} {x:Ex} (hg:b=true->gd x):N0 (tpc L p b x):=by
 unfold tpc;split
 ·rename_i h;exact bnd0 (ev0 (hg h)) txt0
 ·exact ok0 _
theorem ats0 {L:List C}:∀ (f:List Fld),(∀ j (h:j<f.length),f[j].b=true->gd f[j].e)->N0 (ats L f)
 | [],_=>by rw[ats];exact ok0 _
 | c :: t,h=>by
  rw[ats];exact bnd0 (atr0 (h 0 (by simp))) fun a=>bnd0 (ats0 t fun j hj=>by have:=h (j+1) (by simp;omega);simpa using this) fun _=>ok0 _
theorem tgo0 {L:List C}:∀ (f:List Pt) (n:Nat),(∀ j (h:j<f.length),f[j].b=true->gd f[j].e)->N0 (tgo L f n)
 | [],_,_=>by rw[tgo];exact ok0 _
 | c :: t,n,h=>by
  rw[tgo];refine bnd0 (tpc0 (h 0 (by simp))) fun s=>?_
  split
  ·exact er0 (by decide)
  ·exact bnd0 (tgo0 t _ fun j hj=>by have:=h (j+1) (by simp;omega);simpa using this) fun _=>ok0 _
theorem kys0 {L:List C} {x:Ex} (hg:gd x):∀ (l:List C) (i:Nat) (ks:List (Int × Int × ByteArray)),N0 (kys L x l i ks)
 | [],_,_=>by rw[kys];exact ok0 _
 | v :: t,i,ks=>by
  rw[kys];refine bnd0 (bnd0 (ev0 hg) isK0) fun k=>?_
  split
  ·exact er0 (by decide)
  ·exact kys0 hg t _ _
theorem wth0:∀ (xs:List Ex) (L:List C),(∀ x ∈ xs,gd x)->N0 (wth L xs)
 | [],L,_=>by rw[wth];exact ok0 _
 | x :: t,L,h=>by
  rw[wth];exact bnd0 (ev0 (h x (by simp))) fun v=>wth0 t _ fun y hy=>h y (by simp [hy])
theorem rnL0 {f:Co->Int->Except Nat (List T × Int)}:∀ (cs:List Co) (r:Int) (F:List T),(∀ d ∈ cs,∀ x,N0 (f d x))->N0 (rnL f cs r F)
 | [],r,F,_=>by rw[rnL];exact ok0 _
 | c :: t,r,F,h=>by
  rw[rnL];exact bnd0 (h c (by simp) r) fun a=>rnL0 t _ _ fun d hd=>h d (by simp [hd])
theorem lp0 {f:Nat->C->Int->Except Nat (List T × Int)} (h:∀ i v x,N0 (f i v x)):∀ (l:List C) (i:Nat) (r:Int) (F:List T),N0 (lp f l i r F)
 | [],_,_,_=>by rw[lp];exact ok0 _
 | v :: t,i,r,F=>by
  rw[lp];exact bnd0 (h i v r) fun a=>lp0 h t _ _ _
theorem rn0:∀ (n:Nat) (s:Nat) (c:Co),oks n s c->∀ (L:List C) (x:Int),N0 (rn n L c x)
 | 0,s,c,h=>by rw[oks] at h;exact h.elim
 | n+1,s,c,h=>by
  intro L x;rw[oks] at h;obtain⟨hx,hf,hs,h⟩:=h;rcases h with k|⟨k,hfl,hl⟩|⟨k,hn,hl,hu⟩|⟨k,hn,h2,hl⟩|⟨k,h2,hl⟩
  ·rw[rn,if_pos k]
   refine bnd0 ?_ fun _=>ok0 _
   unfold nT;split
   ·exact er0 (by decide)
   ·exact bnd0 (tgo0 _ _ fun j hj hb=>(hx _ (mem_p hj hb)).1) fun _=>ok0 _
  ·rw[rn,if_neg (by omega),if_pos k]
   refine bnd0 ?_ fun _=>ok0 _
   unfold nE;split
   ·exact er0 (by decide)
   ·exact bnd0 (ats0 _ fun j hj hb=>(hx _ (mem_f hj hb)).1) fun _=>bnd0 (rnL0 _ _ _ fun d hd x=>rn0 n s d (hl d hd) L x) fun _=>ok0 _
  ·obtain⟨y,hy⟩ : ∃ y,c.x=[y]:=List.length_eq_one_iff.1 hn
   rw[rn,if_neg (by omega),if_neg (by omega),if_pos k];have e0:GRn.x0 c=y:=by unfold GRn.x0;rw[hy];rfl
   rw[e0];refine bnd0 (bnd0 (ev0 (hx y (mem_x (by rw[hy];simp))).1) isT0) fun b=>?_
   cases b
   ·exact rnL0 _ _ _ fun d hd x=>rn0 n s d (hu d hd) L x
   ·exact rnL0 _ _ _ fun d hd x=>rn0 n s d (hl d hd) L x
  ·obtain⟨y0,y1,hy⟩ : ∃ y0 y1,c.x=[y0,y1]:=by
    match hc:c.x with
    | []=>rw[hc] at hn;simp at hn
    | [a]=>rw[hc] at hn;simp at hn
    | [a,b]=>exact⟨a,b,rfl⟩
    | a :: b :: d :: t=>rw[hc] at hn;simp at hn
   rw[rn,if_neg (by omega),if_neg (by omega),if_neg (by omega),if_pos k];have e0:GRn.x0 c=y0:=by unfold GRn.x0;rw[hy];rfl
   have e1:GRn.x1 c=y1:=by unfold GRn.x1;rw[hy];rfl
   rw[e0,e1];exact bnd0 (bnd0 (ev0 (hx y0 (mem_x (by rw[hy];simp))).1) isL0) fun l=>bnd0 (kys0 (hx y1 (mem_x (by rw[hy];simp))).1 _ _ _) fun _=>lp0 (fun i v x=>rnL0 _ _ _ fun d hd x=>rn0 n (s+2) d (hl d hd) _ x) _ _ _ _
  ·rw[rn,if_neg (by omega),if_neg (by omega),if_neg (by omega),if_neg (by omega)]
   exact bnd0 (wth0 _ _ fun y hy=>(hx y (mem_x hy)).1) fun L'=>rnL0 _ _ _ fun d hd x=>rn0 n _ d (hl d hd) L' x
end Go.Proofs.YtdolgmmldncfkaaGreatDoor.GIr
namespace Go.Proofs.YtdolgmmldncfkaaGreatDoor.GTn
open Go.RowKit Base VJn VRs GRe GZp GRn GKl GAn GIr
open VPure hiding evL
open TBase (T)
open KBase (Pt Fld Co RP RF)
open KVp (szL szL_cons szL_nil)
theorem through_no {m mc:Nat} {w:World} {cv v mv:Value} {cs:List Co} {c:C} {z:Int} (hcs:KBase.InL false (fun _=>True) w mc cv cs) (hin:Base.In false (fun _=>True) w (m+1) v c) (hz:z≠0)
  (hno:KNd.chk cs=z\/(KNd.chk cs=0/\(Measure.ms 0 0 (Walk.pl 1 c)).2.2=z)) :
  Calls prog 18 #[cv,v,mv] w fun e w'=>e=.returned (.int .i64 z)/\Below w.heap.size w w':=by
 obtain⟨an,ln,cn,al,ll,cl,rfl⟩:=in_shape hin
 obtain⟨W,hW⟩ : ∃ W,(w.alloc (.cells #[.int .i64 c.k,.bool c.b,.int .i64 c.i,.string c.s,.slice an ln cn,.slice al ll cl] 26)).alloc (.cells #[.int .i64 0] 31)=W:=⟨_,rfl⟩;have bW:Below w.heap.size w W:=by rw[<- hW];exact ((Below.refl _ w).alloc (Nat.le_refl _) _).alloc (by simp) _
 have sW:W.heap.size=w.heap.size+2:=by rw[<- hW];simp
 have zV:W.heap[w.heap.size]? = some (.cells #[.int .i64 c.k,.bool c.b,.int .i64 c.i,.string c.s,.slice an ln cn,.slice al ll cl] 26 (0,0)):=by rw[<- hW,Below.heap_alloc _ _ _ (by simp),heap_alloc_new]
 have zM:W.heap[w.heap.size+1]? = some (.cells #[.int .i64 0] 31 (0,0)):=by
  rw[<- hW];have:=heap_alloc_new (w.alloc (.cells #[.int .i64 c.k,.bool c.b,.int .i64 c.i,.string c.s,.slice an ln cn,.slice al ll cl] 26)) (.cells #[.int .i64 0] 31);rwa [World.size_alloc] at this
 have cC:=KNd.check_c (m:=mc) (w:=W) (hcs.keep (Keep.of_below bW));have cV:Hid (∀ W1,Below w.heap.size w W1->Calls prog 32 #[.agg #[.int .i64 c.k,.bool c.b,.int .i64 c.i,.string c.s,.slice an ln cn,.slice al ll cl]] W1 fun e w'=>e=.returned (.int .i64 (Measure.ms 0 0 (Walk.pl 1 c)).2.2)/\Below W1.heap.size W1 w'):=fun W1 h1=>GMw.check_all (hin.keep (w':=W1) (fun b hb hl=>h1.block b hl))
 have HBW:=hid bW;have HZV:=hid zV;have HZM:=hid zM;obtain⟨q0,q1,q2,q3,q4,q5⟩:=six_box zV;have hz1:(z == 0)=false:=by simp [hz]
 clear hin bW zV zM hcs;rcases hno with hno|⟨hno,hno2⟩
 ·rw[hno] at cC
  clear hno cV;go_enter_defers func18,ntmps18;go_wp2_with fail
  try rw[hW]
  refine cC.mono ?_;rintro e W1 ⟨rfl,b1⟩;have hs1:=b1.size;have HM1:=hid ((b1.block (w.heap.size+1) (by omega)).trans HZM.out);have HB1:=hid (HBW.out.trans (b1.mono (by omega)));have k3:W1.cell? ⟨w.heap.size+1,0,none⟩=some (.int .i64 0):=by simp [World.cell?, HM1.out]
  have kf:=Base.frozen_box HM1.out 0;obtain⟨W4,hW4⟩ : ∃ W4,W1.setCell ⟨w.heap.size+1,0,none⟩ (.int .i64 z)=W4:=⟨_,rfl⟩;have m4:W4.cell? ⟨w.heap.size+1,0,none⟩=some (.int .i64 z):=by rw[<- hW4];have:=GTr.heap_set W1 (w.heap.size+1) 0 _ _ (.int .i64 z) HM1.out;simp [World.cell?, this]
  have HB4:Hid (Below w.heap.size w W4):=by rw[<- hW4];exact HB1.out.setCell (by show _<=w.heap.size+1;omega) _
  clear q0 q1 q2 q3 q4 q5 b1 cC;go_wp2_with fail
  try rw[hW4]
  unfold bodyPostD;simp [Leaves, results, results18, go_sem, m4]
  exact HB4.out
 ·rw[hno] at cC
  go_enter_defers func18,ntmps18;go_wp2_with fail
  try rw[hW]
  refine cC.mono ?_;rintro e W1 ⟨rfl,b1⟩;have hs1:=b1.size;have HB1:=hid (HBW.out.trans (b1.mono (by omega)));have HV1:=hid ((b1.block w.heap.size (by omega)).trans HZV.out);have HM1:=hid ((b1.block (w.heap.size+1) (by omega)).trans HZM.out);have c2:=cV.out W1 HB1.out;rw[hno2] at c2;clear q0 q1 q2 q3 q4 q5 b1 cC hno hno2;obtain⟨q0,q1,q2,q3,q4,q5⟩:=six_box HV1.out;go_wp2_with fail
  refine c2.mono ?_;rintro e W2 ⟨rfl,b2⟩;have hs2:=b2.size;have HB2:=hid (HB1.out.trans (b2.mono (by omega)));have HM2:=hid ((b2.block (w.heap.size+1) (by omega)).trans HM1.out);have k3:W2.cell? ⟨w.heap.size+1,0,none⟩=some (.int .i64 0):=by simp [World.cell?, HM2.out]
  have kf:=Base.frozen_box HM2.out 0;obtain⟨W4,hW4⟩ : ∃ W4,W2.setCell ⟨w.heap.size+1,0,none⟩ (.int .i64 z)=W4:=⟨_,rfl⟩;have m4:W4.cell? ⟨w.heap.size+1,0,none⟩=some (.int .i64 z):=by rw[<- hW4];have:=GTr.heap_set W2 (w.heap.size+1) 0 _ _ (.int .i64 z) HM2.out;simp [World.cell?, this]
  have HB4:Hid (Below w.heap.size w W4):=by rw[<- hW4];exact HB2.out.setCell (by show _<=w.heap.size+1;omega) _
  clear q0 q1 q2 q3 q4 q5 b2 c2 cV;go_wp2_with fail
  try rw[hW4]
  unfold bodyPostD;simp [Leaves, results, results18, go_sem, m4]
  exact HB4.out
open Walk (pl plL)
open Shallow (dep depL)
open JGd (code code_iff Gd)
theorem depL_pl:∀ (l:List C) (d N:Nat),(∀ p ∈ plL d l,p.1<=N)->l=[]\/d+depL l<=N+1
 | [],_,_,_=>.inl rfl
 | .mk k b i s n l :: t,d,N,h=>by
  rw[plL] at h;have h0:d<=N:=h (d,.mk k b i s n l) (by simp);have h1:=depL_pl l (d+1) N fun p hp=>h p (by simp [hp])
  have h2:=depL_pl t d N fun p hp=>h p (by simp [hp])
  refine .inr ?_;rw[depL];have e1:d+(depL l+1)<=N+1:=by
   rcases h1 with rfl|h1
   ·rw[depL];omega
   ·omega
  have e2:d+depL t<=N+1:=by
   rcases h2 with rfl|h2
   ·rw[depL];omega
   ·exact h2
  omega
theorem dep_code {c:C} (h:code c=0):dep c<=24:=by
 have hp:=(code_iff c).1 h;have ha:∀ p ∈ pl 1 c,p.1<=24:=fun p hp'=>by
  obtain⟨j,hj,rfl⟩:=List.mem_iff_getElem.1 hp';exact (hp j hj).2.1
 obtain⟨k,b,i,s,n,l⟩:=c;rw[pl] at ha;have h1:=depL_pl l 2 24 fun p hp=>ha p (by simp [hp])
 rw[dep];rcases h1 with rfl|h1
 ·rw[depL];omega
 ·omega
theorem render_no {m mc:Nat} {w:World} {cv v:Value} {cs:List Co} {c:C} {z:Nat} (hcs:KBase.InL false (fun _=>True) w mc cv cs) (hin:Base.In false (fun _=>True) w (m+1) v c) (hz:z≠0) (hno:KNd.chk cs=z\/(KNd.chk cs=0/\(Measure.ms 0 0 (Walk.pl 1 c)).2.2=z)) :
  Calls prog 7 #[cv,v] w fun e w'=>RR w (.error z) e w':=by
 obtain⟨an,ln,cn,al,ll,cl,rfl⟩:=in_shape hin
 obtain⟨W0,hW0⟩ : ∃ W0,(w.alloc (.cells #[.int .i64 c.k,.bool c.b,.int .i64 c.i,.string c.s,.slice an ln cn,.slice al ll cl] 26)).alloc (.cells #[.slice none 0 0] 57)=W0:=⟨_,rfl⟩;have b0:Below w.heap.size w W0:=by rw[<- hW0];exact ((Below.refl _ w).alloc (Nat.le_refl _) _).alloc (by simp) _
 have s0:W0.heap.size=w.heap.size+2:=by rw[<- hW0];simp
 refine render_of hW0 ((through_no (hcs.keep (Keep.of_below b0)) (hin.keep (w':=W0) (fun b _ hl=>b0.block b hl)) (z:=z) (by omega) hno).mono ?_);rintro e w' ⟨he,hb⟩;exact⟨hz,he,hb.mono (by omega)⟩
theorem render_good {m mc:Nat} {w:World} {cv v:Value} {cs:List Co} {c:C} (hcs:KBase.InL false (fun b=>b<w.heap.size) w mc cv cs) (hin:Base.In false (fun b=>b<w.heap.size) w (m+1) v c) (hpos:0<szL cs) (hchk:KNd.chk cs=0) (hms:(Measure.ms 0 0 (Walk.pl 1 c)).2.2=0) (ht:Tb w) :
  Calls prog 7 #[cv,v] w fun e w'=>RR w (bnd (rnL (rn (szL cs) [c]) cs 4096 []) fun a=>.ok a.1) e w':=by
 have hok:=chk_oks hchk (ic_of mc cv cs hcs);have hg:=in_gd hin hms;have hsz:=sz_ok hchk;refine GRd.render_c hcs hin hpos hchk (by have:=dep_code hms;omega) hms ht (rnL0 _ _ _ fun d hd x=>rn0 _ 1 d (hok d hd) [c] x) (fun B Bb sv hz d hd=>nds_all (by rw[hz,zs_len];omega) _ [c] d (hok d hd) (fun e he=>?_) (by simp));rw[List.mem_singleton.1 he];exact hg
end Go.Proofs.YtdolgmmldncfkaaGreatDoor.GTn

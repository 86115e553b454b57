import Derived.Test.YtdolgmmldncfkaaGreatDoorPJ08
import Derived.Test.YtdolgmmldncfkaaGreatDoorPJ09
import Derived.Test.YtdolgmmldncfkaaGreatDoorPJ15
import Derived.Test.YtdolgmmldncfkaaGreatDoorPJ32
import Derived.Test.YtdolgmmldncfkaaGreatDoorPJ42
open Go.Proofs.Tryz
set_option linter.unusedVariables false
set_option maxRecDepth 20000
set_option maxHeartbeats 6400000
namespace Go.Proofs.YtdolgmmldncfkaaGreatDoor.GN5
open Go.RowKit Base EPure JPure GPl GEn GBu GNs GNo GRn GNg GN2 GN4
open VPure hiding evL
open VPure (isT)
open TBase (T)
open KBase (Pt Fld Co RP RF)
open KVp (szL szL_cons szL_nil)
theorem node3 {K m lo:Nat} {w:World} {B Bb:Nat} {Pv tv fv pv xv lv uv:Value} {sv:Sz} {r num:Int} {t:ByteArray} {L:List C} {F:List T} {A:Except Nat (List T × Int)} (h:Wr K m w B Bb Pv sv r L) (hb:Bt lo w Bb Pv.ownBlock tv F)
  (hc:∀ W0,Below w.heap.size w W0->Calls prog 78 #[ptr B,.agg #[.int .i64 3,.string t,fv,pv,xv,lv,uv],.int .i64 num] W0 fun e w'=>LR (Rs K m B Bb sv L) lo B Bb Pv.ownBlock tv F W0 A e w') :
  Calls prog 54 #[ptr B,.agg #[.int .i64 3,.string t,fv,pv,xv,lv,uv],.int .i64 num] w fun e w'=>LR (Rs K m B Bb sv L) lo B Bb Pv.ownBlock tv F w A e w':=by
 have hBw:=h.lt;obtain⟨W0,hW0,s0,b0,g1,g2,g3⟩:=boxes3 w #[ptr B] #[.int .i64 3,.string t,fv,pv,xv,lv,uv] #[.int .i64 num] 112 42 3;have q0:=one_b g1;obtain⟨d0,d1,d2,d3,d4,d5,d6⟩:=seven_b g2;have n0:=one_b g3;have cL:=hc W0 b0;have HB0:=hid b0;clear h hb hc b0 g1 g2 g3 s0;cases A with
 | error z=>
  go_enter func54,ntmps54;go_wp2_with fail
  try rw[hW0]
  refine cL.mono ?_;rintro e W1 ⟨rfl,hf⟩;exact⟨rfl,lr_from (A:=.error z) HB0.out hBw ⟨rfl,hf⟩⟩
 | ok a=>
  go_enter func54,ntmps54;go_wp2_with fail
  try rw[hW0]
  refine cL.mono ?_;rintro e W1 ⟨⟨v1,rfl⟩,hrest⟩;have HR:=hid hrest;clear hrest cL q0 d0 d1 d2 d3 d4 d5 d6 n0;go_wp2_with fail
  go_end0
  exact lr_from (A:=.ok a) HB0.out hBw ⟨⟨_,rfl⟩,HR.out⟩
theorem node5 {K m lo:Nat} {w:World} {B Bb:Nat} {Pv tv fv pv xv lv uv:Value} {sv:Sz} {r num:Int} {t:ByteArray} {L:List C} {F:List T} {A:Except Nat (List T × Int)} (h:Wr K m w B Bb Pv sv r L) (hb:Bt lo w Bb Pv.ownBlock tv F)
  (hc:∀ W0,Below w.heap.size w W0->Calls prog 80 #[ptr B,.agg #[.int .i64 5,.string t,fv,pv,xv,lv,uv],.int .i64 num] W0 fun e w'=>LR (Rs K m B Bb sv L) lo B Bb Pv.ownBlock tv F W0 A e w') :
  Calls prog 54 #[ptr B,.agg #[.int .i64 5,.string t,fv,pv,xv,lv,uv],.int .i64 num] w fun e w'=>LR (Rs K m B Bb sv L) lo B Bb Pv.ownBlock tv F w A e w':=by
 have hBw:=h.lt;obtain⟨W0,hW0,s0,b0,g1,g2,g3⟩:=boxes3 w #[ptr B] #[.int .i64 5,.string t,fv,pv,xv,lv,uv] #[.int .i64 num] 112 42 3;have q0:=one_b g1;obtain⟨d0,d1,d2,d3,d4,d5,d6⟩:=seven_b g2;have n0:=one_b g3;have cL:=hc W0 b0;have HB0:=hid b0;clear h hb hc b0 g1 g2 g3 s0;cases A with
 | error z=>
  go_enter func54,ntmps54;go_wp2_with fail
  try rw[hW0]
  refine cL.mono ?_;rintro e W1 ⟨rfl,hf⟩;exact⟨rfl,lr_from (A:=.error z) HB0.out hBw ⟨rfl,hf⟩⟩
 | ok a=>
  go_enter func54,ntmps54;go_wp2_with fail
  try rw[hW0]
  refine cL.mono ?_;rintro e W1 ⟨⟨v1,rfl⟩,hrest⟩;have HR:=hid hrest;clear hrest cL q0 d0 d1 d2 d3 d4 d5 d6 n0;go_wp2_with fail
  go_end0
  exact lr_from (A:=.ok a) HB0.out hBw ⟨⟨_,rfl⟩,HR.out⟩
theorem choose_d {K m B Bb:Nat} {sv:Sz} {n:Nat} {L:List C} {c:Co} {y0:Ex} {ys:List Ex} (hZ:sv.2.1.length<=50000) (hk:c.k=3) (hxs:c.x=y0 :: ys) (hg0:gd y0/\ops JVa.okOp y0)
  (hl:∀ d ∈ c.l,NDs K m B Bb sv n L d) (hu:∀ d ∈ c.u,NDs K m B Bb sv n L d):NDs K m B Bb sv (n+1) L c:=by
 intro W Pv x F tv u num mc lo hin ha hw hb hBlo hzl hF hx;obtain⟨mc',fv,pv,xv,lv,uv,-,rfl,-,-,hF1,hP1,⟨nx,hX1⟩,hL1,hU1⟩:=hin.shape;have e:rn (n+1) L c x=bnd (bnd (ev (rh L) y0) isT) fun b=>if b=true then rnL (rn n L) c.l x [] else rnL (rn n L) c.u x []:=by
  rw[rn,if_neg (by omega),if_neg (by omega),if_pos hk];have e0:x0 c=y0:=by unfold x0;rw[hxs];rfl
  rw[e0];congr 1
  funext b
  cases b <;> rfl
 rw[e,hk];have hak:=(ha.kids (q:=0) (by simp)).1;have hau:=(ha.kids (q:=0) (by simp)).2;simp only [List.take_zero, szL_nil, Nat.add_zero, List.getElem_cons_zero] at hak hau;have hal:=ha.len;have hlk:=hak.len;refine node3 hw hb (fun W0 hb0=>?_);have hbl:=(Array.getElem?_eq_some_iff.1 hb.box).1;have hKw:K<=W.heap.size:=by have:=hw.lt;have:=hw.lB;omega
 have HL:=hid hL1;obtain⟨la,lc,rfl,hl1,hl2,hl3,-⟩:=hL1;have kt:∀ W',Below W0.heap.size W0 W'->Wr K m W' B Bb Pv sv x L/\Bt lo W' Bb Pv.ownBlock tv F/\Below K W W':=fun W' hb'=>
  have hB:=hb0.trans (hb'.mono hb0.size);⟨hw.below hB,bt_keep hb hB.size (hB.block Bb hbl) (fun b _ h2 _=>hB.block b h2),hB.mono hKw⟩
 refine GCh.choose_c (kn:=0) (hw.below hb0) (bt_keep hb hb0.size (hb0.block Bb hbl) (fun b _ h2 _=>hb0.block b h2)) (hX1.keep (w':=W0) (fun b hb _=>hb0.block b (by have:b<K:=hb;omega))) hxs hg0 (by omega) hak hZ (by omega) (fun W' hb'=>?_) (fun W' hb'=>?_)
 ·obtain⟨k1,k2,k3⟩:=kt W' hb'
  exact nodes_c hl hZ (HL.out.keep (w':=W') (fun b hb _=>k3.block b hb)) hak k1 k2 hBlo hzl hF hx
 ·obtain⟨k1,k2,k3⟩:=kt W' hb'
  exact nodes_c hu hZ (hU1.keep (w':=W') (fun b hb _=>k3.block b hb)) hau k1 k2 hBlo hzl hF hx
theorem with_d {K m B Bb:Nat} {sv:Sz} {n:Nat} {L:List C} {c:Co} (hZ:sv.2.1.length<=50000) (hk:c.k=5) (hg:∀ j (h:j<c.x.length),gd c.x[j]/\ops JVa.okOp c.x[j]) (hL2:L.length+c.x.length<=100000) (h0:0<L.length)
  (hd:∀ N,wth L c.x=.ok (L ++ N)->∀ d ∈ c.l,NDs K m B Bb sv n (L ++ N) d):NDs K m B Bb sv (n+1) L c:=by
 intro W Pv x F tv u num mc lo hin ha hw hb hBlo hzl hF hx;obtain⟨mc',fv,pv,xv,lv,uv,-,rfl,-,-,hF1,hP1,⟨nx,hX1⟩,hL1,hU1⟩:=hin.shape;have e:rn (n+1) L c x=bnd (wth L c.x) fun L'=>rnL (rn n L') c.l x []:=by
  rw[rn,if_neg (by omega),if_neg (by omega),if_neg (by omega),if_neg (by omega)]
 rw[e,hk];have hak:=(ha.kids (q:=0) (by simp)).1;simp only [List.take_zero, szL_nil, Nat.add_zero, List.getElem_cons_zero] at hak;have hal:=ha.len;refine node5 hw hb (fun W0 hb0=>?_);have hbl:=(Array.getElem?_eq_some_iff.1 hb.box).1;have hKw:K<=W.heap.size:=by have:=hw.lt;have:=hw.lB;omega
 refine GWi.with_c (g:=fun L'=>rnL (rn n L') c.l x []) (hw.below hb0) (bt_keep hb hb0.size (hb0.block Bb hbl) (fun b _ h2 _=>hb0.block b h2)) hBlo (hX1.keep (w':=W0) (fun b hb _=>hb0.block b (by have:b<K:=hb;omega))) hg hL2 h0 (by omega) (fun N hN W' Pv' hw' hbt' hK=>?_);have bK:=(hb0.mono hKw).trans hK;exact nodes_c (hd N hN) hZ (hL1.keep (w':=W') (fun b hb _=>bK.block b hb)) hak hw' hbt' hBlo hzl hF hx
end Go.Proofs.YtdolgmmldncfkaaGreatDoor.GN5
namespace Go.Proofs.YtdolgmmldncfkaaGreatDoor.UJn
open UBase
theorem len4_same {a b c d a' b' c' d' k:Nat} (h:len4 a b c d=k) (h0:k≠0) (ea:a'=a) (eb:2<=k->b'=b) (ec:3<=k->c'=c) (ed:4<=k->d'=d):len4 a' b' c' d'=k:=by
 subst ea;unfold len4 at h;split at h
 ·unfold len4;rw[if_pos (by assumption)];exact h
 ·split at h
  ·have e:=eb (by omega);subst e;unfold len4;rw[if_neg (by assumption),if_pos (by assumption)];exact h
  ·split at h
   ·split at h
    ·omega
    ·have e:=eb (by omega);subst e;have e:=ec (by omega);subst e
     unfold len4;rw[if_neg (by assumption),if_neg (by assumption),if_pos (by assumption),if_neg (by assumption)];exact h
   ·split at h
    ·split at h
     ·omega
     ·have e:=eb (by omega);subst e;have e:=ec (by omega);subst e;have e:=ed (by omega);subst e
      unfold len4;rw[if_neg (by assumption),if_neg (by assumption),if_neg (by assumption),if_pos (by assumption),if_neg (by assumption)];exact h
    ·omega
theorem len_same {s u:ByteArray} {m i:Nat} (ag:∀ j,j<m->at' u j=at' s j) (h0:len s i≠0) (hm:i+len s i<=m):len u i=len s i:=by
 rw[len_eq u];exact len4_same (len_eq s i).symm h0 (ag _ (by omega)) (fun _=>ag _ (by omega)) (fun _=>ag _ (by omega)) (fun _=>ag _ (by omega))
theorem bad_shift (s t:ByteArray):∀ (k j:Nat),t.size - j<=k->bad (s ++ t) (s.size+j)=(bad t j).map (s.size + ·):=by
 intro k;induction k with
 | zero=>intro j hk;rw[bad_end (s:=t) (by omega),bad_end (by simp;omega)];rfl
 | succ k ih=>
  intro j hk;have el:len (s ++ t) (s.size+j)=len t j:=by
   rw[len_eq,len_eq,Nat.add_assoc,Nat.add_assoc,Nat.add_assoc,at_append_right,at_append_right,at_append_right,at_append_right]
  by_cases hj:j<t.size
  ·by_cases hl:len t j=0
   ·rw[bad_here hj hl,bad_here (s:=s ++ t) (by simp;omega) (by omega)]
    rfl
   ·rw[bad_step hj hl,bad_step (s:=s ++ t) (by simp;omega) (by omega),el,Nat.add_assoc]
    exact ih _ (by omega)
  ·rw[bad_end hj,bad_end (by simp;omega)]
   rfl
theorem bad_join {s t:ByteArray}:∀ (k i:Nat),s.size - i<=k->i<=s.size->bad s i=none->bad (s ++ t) i=(bad t 0).map (s.size + ·):=by
 intro k;induction k with
 | zero=>
  intro i hk hi h;obtain rfl:i=s.size+0:=by omega
  exact bad_shift s t _ _ (Nat.le_refl _)
 | succ k ih=>
  intro i hk hi h;by_cases e:i=s.size
  ·obtain rfl:i=s.size+0:=by omega
   exact bad_shift s t _ _ (Nat.le_refl _)
  ·have hi':i<s.size:=by omega
   have hl:len s i≠0:=fun hl=>by rw[bad_here hi' hl] at h;cases h
   rw[bad_step hi' hl] at h;have b2:=len_in hi';have el:=len_same (s:=s) (u:=s ++ t) (m:=s.size) (fun j hj=>at_append_left s t j hj) hl b2;rw[bad_step (s:=s ++ t) (by simp;omega) (by omega),el];exact ih _ (by omega) b2 h
theorem verr_join {s t:ByteArray} (h:bad s 0=none):verr (s ++ t)=verr t:=by
 unfold verr;rw[bad_join _ _ (Nat.le_refl _) (by omega) h];cases bad t 0 <;> simp
end Go.Proofs.YtdolgmmldncfkaaGreatDoor.UJn
namespace Go.Proofs.YtdolgmmldncfkaaGreatDoor.JGd
open Go.RowKit Base VPure
open Walk (pl plL)
open UBase (at' verr)
def code (c:C):Int:=(Measure.ms 0 0 (Walk.pl 1 c)).2.2
def rg (i:Int):Prop:=-9223372036854775808<=i/\i<=9223372036854775807
def okP (c:C) (d q:Nat):Prop:=q<=16384/\d<=24/\(1<=c.k/\c.k<=6)/\Fault.fm c=true
theorem ft_iff (c:C) (d q:Nat):Fault.ft c d q=0 ↔ okP c d q:=by
 unfold Fault.ft okP;by_cases h1:16384<(q:Int)
 ·rw[if_pos h1];exact⟨fun h=>(by cases h),fun h=>(by omega)⟩
 rw[if_neg h1];by_cases h2:24<(d:Int)
 ·rw[if_pos h2];exact⟨fun h=>(by cases h),fun h=>(by omega)⟩
 rw[if_neg h2];by_cases h3:c.k<1\/6<c.k
 ·rw[if_pos h3];exact⟨fun h=>(by cases h),fun h=>(by omega)⟩
 rw[if_neg h3];by_cases h4:Fault.fm c=true
 ·rw[if_pos h4];exact⟨fun _=>⟨by omega,by omega,by omega,h4⟩,fun _=>rfl⟩
 ·rw[if_neg h4];exact⟨fun h=>(by cases h),fun h=>(h4 h.2.2.2).elim⟩
theorem ms_iff:∀ (r:List (Nat × C)) (D k:Nat),(Measure.ms D k r).2.2=0 ↔ ∀ j (h:j<r.length),okP r[j].2 r[j].1 (k+j+1)
 | [],_,_=>by rw[Measure.ms];exact⟨fun _ j h=>absurd h (by simp),fun _=>rfl⟩
 | (d,c) :: r,D,k=>by
  rw[Measure.ms];by_cases hf:Fault.ft c d (k+1:Nat)=0
  ·rw[if_pos hf,ms_iff r]
   constructor
   ·intro h j hj
    cases j with
    | zero=>exact (ft_iff c d (k+1)).1 hf
    | succ j=>
     have:=h j (by simpa using hj);rw[show k+1+j+1=k+(j+1)+1 from by omega] at this;simpa using this
   ·intro h j hj
    have:=h (j+1) (by simpa using hj);rw[show k+(j+1)+1=k+1+j+1 from by omega] at this;simpa using this
  ·rw[if_neg hf]
   constructor
   ·intro h;exact (hf h).elim
   ·intro h
    exact (hf ((ft_iff c d (k+1)).2 (h 0 (by simp)))).elim
theorem code_iff (c:C):code c=0 ↔ ∀ j (h:j<(pl 1 c).length),okP (pl 1 c)[j].2 (pl 1 c)[j].1 (j+1):=by
 unfold code;rw[ms_iff];constructor <;> intro h j hj <;> simpa using h j hj
def Gd (c:C):Prop:=code c=0/\∀ p ∈ pl 1 c,rg p.2.i
theorem plL_up:∀ (l:List C) (d:Nat),plL (d+1) l=(plL d l).map fun p=>(p.1+1,p.2)
 | [],_=>by rw[plL,plL];rfl
 | .mk k b i s n l :: t,d=>by rw[plL,plL,plL_up l (d+1),plL_up t d];simp
theorem pl_up (c:C) (d:Nat):pl (d+1) c=(pl d c).map fun p=>(p.1+1,p.2):=by
 obtain⟨k,b,i,s,n,l⟩:=c;rw[pl,pl,plL_up l (d+1)];rfl
theorem plL_at:∀ (l:List C) (d q:Nat) (h:q<l.length),∃ A B,plL d l=A ++ pl d l[q] ++ B
 | [],_,q,h=>absurd h (by simp)
 | c :: t,d,0,h=>⟨[],plL d t,by rw[Walk.plL_cons];rfl⟩
 | c :: t,d,q+1,h=>by
  obtain⟨A,B,e⟩:=plL_at t d q (by simpa using h);exact⟨pl d c ++ A,B,by rw[Walk.plL_cons,e];simp⟩
theorem pl_len (c:C):c.l.length<(pl 1 c).length:=by
 have h:∀ (l:List C) (d:Nat),l.length<=(plL d l).length:=by
  intro l;induction l with
  | nil=>intro d;simp
  | cons c t ih=>intro d;rw[Walk.plL_cons];obtain⟨k,b,i,s,n,l⟩:=c;rw[pl];simp;have:=ih d;omega
 obtain⟨k,b,i,s,n,l⟩:=c;rw[pl];have:=h l (1+1);simp only [List.length_cons, C.l];omega
theorem Gd.self {c:C} (h:Gd c):(1<=c.k/\c.k<=6)/\Fault.fm c=true/\rg c.i/\c.l.length<=16384:=by
 have hp:=(code_iff c).1 h.1;have hl:=pl_len c;have hlast:=hp ((pl 1 c).length - 1) (by omega);have h0:=hp 0 (by omega);have e:(pl 1 c)[0]'(by omega)=(1,c):=by obtain⟨k,b,i,s,n,l⟩:=c;simp [pl]
 rw[e] at h0;have hm:=h.2 (1,c) (by rw[<- e];exact List.getElem_mem _);exact⟨h0.2.2.1,h0.2.2.2,hm,by have:=hlast.1;omega⟩
theorem Gd.sub {c:C} (h:Gd c) {q:Nat} (hq:q<c.l.length):Gd (c.l.getD q zerC):=by
 have eg:c.l.getD q zerC=c.l[q]:=by rw[List.getD_eq_getElem?_getD,List.getElem?_eq_getElem hq];rfl
 rw[eg];obtain⟨A,B,e⟩:=plL_at c.l 2 q hq;have ep:pl 1 c=(1,c) :: (A ++ pl 2 c.l[q] ++ B):=by rw[<- e];obtain⟨k,b,i,s,n,l⟩:=c;rw[pl];rfl
 have eu:=pl_up c.l[q] 1;have hp:=(code_iff c).1 h.1;refine⟨(code_iff _).2 fun j hj=>?_,fun p hp'=>?_⟩
 ·have hj2:j<(pl 2 c.l[q]).length:=by rw[eu];simpa using hj
  have hlen:1+A.length+j<(pl 1 c).length:=by rw[ep];simp;omega
  have hh:=hp (1+A.length+j) hlen;have eq? : (pl 1 c)[1+A.length+j]? = (pl 2 c.l[q])[j]?:=by
   rw[ep,show 1+A.length+j=(A.length+j)+1 from by omega,List.getElem?_cons_succ,List.getElem?_append_left (by simp;omega),List.getElem?_append_right (by omega)];simp
  have eidx:(pl 1 c)[1+A.length+j]=(pl 2 c.l[q])[j]:=by
   rw[List.getElem?_eq_getElem hlen,List.getElem?_eq_getElem hj2] at eq?;injection eq?
  have eel:(pl 2 c.l[q])[j]=((pl 1 c.l[q])[j].1+1,(pl 1 c.l[q])[j].2):=by simp [eu]
  rw[eidx,eel] at hh;exact⟨by have:=hh.1;omega,by have:=hh.2.1;simp only at this;omega,hh.2.2.1,hh.2.2.2⟩
 ·have hm:(p.1+1,p.2) ∈ pl 2 c.l[q]:=by rw[eu,List.mem_map];exact⟨p,hp',rfl⟩
  exact h.2 (p.1+1,p.2) (by rw[ep];exact List.mem_cons_of_mem _ (List.mem_append_left _ (List.mem_append_right _ hm)))
theorem Gd.one {k i:Int} {b:Bool} {s:ByteArray} (hk:1<=k/\k<=6) (hf:Fault.fm (.mk k b i s [] [])=true) (hi:rg i):Gd (.mk k b i s [] []):=by
 have e:pl 1 (.mk k b i s [] [])=[(1,.mk k b i s [] [])]:=by simp [pl, plL]
 refine⟨(code_iff _).2 fun j hj=>?_,fun p hp=>?_⟩
 ·have hj0:j=0:=by rw[e] at hj;simpa using hj
  subst hj0;simp only [e, List.getElem_cons_zero];exact⟨by omega,by omega,hk,hf⟩
 ·rw[e] at hp
  simp only [List.mem_cons, List.not_mem_nil, or_false] at hp;rw[hp];exact hi
theorem bad_low (s:ByteArray) (h:∀ j,j<s.size->at' s j<128):∀ (k i:Nat),s.size - i<=k->UBase.bad s i=none:=by
 intro k;induction k with
 | zero=>intro i hk;rw[UBase.bad,if_neg (by omega)]
 | succ k ih=>
  intro i hk;rw[UBase.bad];by_cases hi:i<s.size
  ·have e:UBase.len s i=1:=by unfold UBase.len;rw[if_pos (h i hi)]
   rw[if_pos hi,if_neg (by omega),e];exact ih (i+1) (by omega)
  ·rw[if_neg hi]
theorem tg_low {L:List UInt8} (h:∀ c ∈ L,c.toNat<128) (hl:L.length<=4096):Pure.tg ⟨L.toArray⟩=true:=by
 have e:UBase.bad ⟨L.toArray⟩ 0=none:=bad_low _ (fun j hj=>by
  have hj':j<L.length:=hj;rw[USmall.at_list];simp only [List.getElem?_eq_getElem hj'];exact h _ (List.getElem_mem hj')) _ 0 (Nat.le_refl _)
 have hs:(⟨L.toArray⟩ : ByteArray).size=L.length:=rfl;unfold Pure.tg verr;rw[if_pos e,hs];simp [hl]
theorem dec_low:∀ (u:Nat),∀ c ∈ Lib.decDigits u,c.toNat<128:=by
 intro u;induction u using Nat.strongRecOn with
 | _ u ih=>
  intro c hc;rw[Lib.decDigits] at hc;by_cases h:u<10
  ·rw[dif_pos h] at hc
   simp only [List.mem_cons, List.not_mem_nil, or_false] at hc;subst hc;simp;omega
  ·rw[dif_neg h,List.mem_append] at hc
   rcases hc with hc|hc
   ·exact ih (u / 10) (by omega) c hc
   ·simp only [List.mem_cons, List.not_mem_nil, or_false] at hc
    subst hc;simp;omega
theorem itoa_low (i:Int):∀ c ∈ Lib.itoa i,c.toNat<128:=by
 intro c hc;unfold Lib.itoa at hc;by_cases h:i<0
 ·rw[if_pos h] at hc
  rcases List.mem_cons.1 hc with rfl|hc
  ·decide
  ·exact dec_low _ c hc
 ·rw[if_neg h] at hc;exact dec_low _ c hc
end Go.Proofs.YtdolgmmldncfkaaGreatDoor.JGd
namespace Go.Proofs.YtdolgmmldncfkaaGreatDoor.JGe
open Go.RowKit Base EPure JPure JGd
open VPure hiding evL
theorem fm_of {k i:Int} {b:Bool} {s:ByteArray} (hs:Pure.tg s=true) (hp:Pure.pu k b i s 0 0=true) (h6:k≠6):Fault.fm (.mk k b i s [] [])=true:=by
 unfold Fault.fm;simp only [C.k, C.b, C.i, C.s, C.n, C.l, List.length_nil];rw[hp,hs];simp [h6]
theorem tg_e:Pure.tg ⟨#[]⟩=true:=tg_low (L:=[]) (by simp) (by simp)
theorem gd_int {i:Int} (h:rg i):Gd (intC i):=Gd.one (by decide) (fm_of tg_e (by simp [Pure.pu]) (by decide)) h
theorem gd_boo (b:Bool):Gd (booC b):=Gd.one (by decide) (fm_of tg_e (by simp [Pure.pu]) (by decide)) (by constructor <;> decide)
theorem gd_nul:Gd nulC:=Gd.one (by decide) (fm_of tg_e (by simp [Pure.pu]) (by decide)) (by constructor <;> decide)
theorem gd_str {s:ByteArray} (h:Pure.tg s=true):Gd (strC s):=Gd.one (by decide) (fm_of h (by simp [Pure.pu]) (by decide)) (by constructor <;> decide)
theorem gd_tg {c:C} (h:Gd c):Pure.tg c.s=true:=by
 have hf:=h.self.2.1;unfold Fault.fm at hf;simp only [Bool.and_eq_true] at hf;exact hf.1.2
theorem tg_size {s:ByteArray} (h:Pure.tg s=true):s.size<=4096:=by
 unfold Pure.tg at h;simp only [Bool.and_eq_true, decide_eq_true_eq] at h;exact h.1
theorem tg_bad {s:ByteArray} (h:Pure.tg s=true):UBase.bad s 0=none:=by
 unfold Pure.tg UBase.verr at h;by_cases e:UBase.bad s 0=none
 ·exact e
 ·rw[if_neg e] at h;simp at h
theorem tg_join {x y:ByteArray} (hx:Pure.tg x=true) (hy:Pure.tg y=true) (hl:x.size+y.size<=4096):Pure.tg (x ++ y)=true:=by
 have e:=UJn.verr_join (t:=y) (tg_bad hx);have ey:UBase.verr y=0:=by unfold UBase.verr;rw[if_pos (tg_bad hy)]
 unfold Pure.tg;rw[e,ey,ByteArray.size_append];simp [hl]
theorem txt_tg {c:C} {x:ByteArray} (h:Gd c) (hx:txt c=.ok x):Pure.tg x=true:=by
 have hs:=gd_tg h;have hi:=h.self.2.2.1;unfold txt at hx;by_cases he:TextKey.te c=0
 ·rw[if_pos he] at hx
  injection hx with hx
  rw[<- hx];obtain⟨k,b,i,s,n,l⟩:=c;simp only [C.s, C.i] at hs hi;show Pure.tg (if k=1 then ⟨#[]⟩ else if k=2 then (if b=true then ⟨#[116,114,117,101]⟩ else ⟨#[102,97,108,115,101]⟩) else if k=3 then ⟨(Lib.itoa i).toArray⟩ else if k=4 then s else ⟨#[]⟩)=true;by_cases h1:k=1
  ·rw[if_pos h1];exact tg_e
  rw[if_neg h1];by_cases h2:k=2
  ·rw[if_pos h2]
   cases b
   ·exact tg_low (L:=[102,97,108,115,101]) (by decide) (by decide)
   ·exact tg_low (L:=[116,114,117,101]) (by decide) (by decide)
  rw[if_neg h2];by_cases h3:k=3
  ·rw[if_pos h3]
   exact tg_low (itoa_low i) (by have:=Lib.itoa_length_le i hi.1 hi.2;omega)
  rw[if_neg h3];by_cases h4:k=4
  ·rw[if_pos h4];exact hs
  rw[if_neg h4];exact tg_e
 ·rw[if_neg he] at hx;cases hx
theorem mapI_gd {x:Except Nat Int} {c:C} (hr:∀ i,x=.ok i->rg i) (h:mapI x=.ok c):Gd c:=by
 cases x with
 | error e=>cases h
 | ok y=>injection h with h;rw[<- h];exact gd_int (hr y rfl)
theorem numb_gd {o:Int} {a b c:C} (ha:rg a.i) (h:numb o a b=.ok c):Gd c:=
 mapI_gd (fun i hi=>by rw[VRs.tw_ok hi];exact VRs.wh_rng ha) h
theorem pr2_gd {o:Int} {a b c:C} (ha:Gd a) (hb:o=17->Gd b) (h:pr2 o a b=.ok c):Gd c:=by
 have hbo:∀ {B:Bool},(Except.ok (booC B):Ans)=.ok c->Gd c:=fun h=>by injection h with h;rw[<- h];exact gd_boo _
 have hoL:∀ {x:Except Nat Int} {f:Int->Bool},(bnd x fun c=>.ok (booC (f c)))=(.ok c:Ans)->Gd c:=fun {x f} h=>by
  cases x with
  | error e=>cases h
  | ok y=>exact hbo h
 have hsf:=ha.self;unfold pr2 at h;by_cases q:o=17
 ·rw[if_pos q] at h
  have hb:=hb q;unfold cat at h;have ta:∀ x,txt a=.ok x->Pure.tg x=true:=fun x hx=>txt_tg ha hx
  have tb:∀ x,txt b=.ok x->Pure.tg x=true:=fun x hx=>txt_tg hb hx
  revert h ta tb
  generalize txt a=x
  generalize txt b=y
  intro h ta tb;cases x with
  | error e=>cases h
  | ok x=>
   cases y with
   | error e=>cases h
   | ok y=>
    simp only [bnd] at h;by_cases q:4096<x.size+y.size
    ·rw[if_pos q] at h;cases h
    ·rw[if_neg q] at h;injection h with h;rw[<- h];exact gd_str (tg_join (ta x rfl) (tb y rfl) (by omega))
 rw[if_neg q] at h;clear q;by_cases q:o=10
 ·rw[if_pos q] at h
  exact numb_gd (by constructor <;> decide) h
 rw[if_neg q] at h;clear q;by_cases q:o=23
 ·rw[if_pos q] at h
  exact hoL h
 rw[if_neg q] at h;clear q;by_cases q:o=24
 ·rw[if_pos q] at h
  exact hoL h
 rw[if_neg q] at h;clear q;by_cases q:o=25
 ·rw[if_pos q] at h
  exact hoL h
 rw[if_neg q] at h;clear q;by_cases q:o=26
 ·rw[if_pos q] at h
  exact hoL h
 rw[if_neg q] at h;clear q;by_cases q:o=27
 ·rw[if_pos q] at h
  exact hbo h
 rw[if_neg q] at h;clear q;by_cases q:o=28
 ·rw[if_pos q] at h
  exact hbo h
 rw[if_neg q] at h;clear q;by_cases q:o=7\/o=8
 ·rw[if_pos q] at h
  unfold VPure.prt prtR at h;by_cases q5:a.k=5
  ·rw[if_pos q5] at h
   by_cases q3:b.k=3
   ·rw[if_pos q3] at h
    by_cases qi:b.i<0\/(a.l.length:Int)<=b.i
    ·rw[if_pos qi] at h;cases h
    ·rw[if_neg qi] at h;injection h with h;rw[<- h];exact ha.sub (by omega)
   ·rw[if_neg q3] at h;cases h
  ·rw[if_neg q5] at h
   by_cases q6:a.k=6/\b.k=4
   ·rw[if_pos q6] at h
    cases hf:Part.fi a.n b.s with
    | none=>rw[hf] at h;cases h
    | some q=>rw[hf] at h;injection h with h;rw[<- h];exact ha.sub (by have:=Part.fi_lt hf;have:=GWf.fm_six hsf.2.1 q6.1;omega)
   ·rw[if_neg q6] at h;cases h
 rw[if_neg q] at h;clear q;by_cases q:o=9
 ·rw[if_pos q] at h
  unfold cal at h;by_cases q1:b.i=1
  ·rw[if_pos q1] at h
   refine mapI_gd (fun i hi=>?_) h;unfold lenI at hi;by_cases q4:a.k=4
   ·rw[if_pos q4] at hi;injection hi with hi;have:=tg_size (gd_tg ha);constructor <;> omega
   ·rw[if_neg q4] at hi
    by_cases q5:a.k=5\/a.k=6
    ·rw[if_pos q5] at hi;injection hi with hi;have:=hsf.2.2.2;constructor <;> omega
    ·rw[if_neg q5] at hi;cases hi
  rw[if_neg q1] at h;by_cases q2:b.i=2
  ·rw[if_pos q2] at h
   have ta:∀ x,txt a=.ok x->Pure.tg x=true:=fun x hx=>txt_tg ha hx
   revert h ta
   generalize txt a=x
   intro h ta;cases x with
   | error e=>cases h
   | ok x=>injection h with h;rw[<- h];exact gd_str (ta x rfl)
  ·rw[if_neg q2] at h
   refine mapI_gd (fun i hi=>?_) h;unfold tunI at hi;by_cases q3:a.k=3
   ·rw[if_pos q3] at hi;injection hi with hi;rw[<- hi];exact VTo.tun_rng _ _
   ·rw[if_neg q3] at hi;cases hi
 rw[if_neg q] at h;clear q;by_cases q:o=11
 ·rw[if_pos q] at h
  unfold notT at h;by_cases q2:a.k=2
  ·rw[if_pos q2] at h;exact hbo h
  ·rw[if_neg q2] at h;cases h
 rw[if_neg q] at h;clear q;by_cases q:o=20\/o=21\/o=22
 ·rw[if_pos q] at h
  exact mapI_gd (fun i hi=>by rw[VPm.tx_ok hi];exact VBi.bit_rng _ _ _) h
 rw[if_neg q] at h;clear q;exact numb_gd hsf.2.2.1 h
theorem node_gd {ρ:ByteArray->Option C} (hρ:∀ s c,ρ s=some c->Gd c) {o i:Int} {s:ByteArray} {p:List Ans} (hft:o=5->Pure.tg s=true) (hi:rg i) (hp:∀ q c,p.getD q (.error 0)=.ok c->Gd c) {c:C} (h:node ρ o i s p=.ok c):Gd c:=by
 have hbo:∀ {B:Bool},(Except.ok (booC B):Ans)=.ok c->Gd c:=fun h=>by injection h with h;rw[<- h];exact gd_boo _
 unfold node at h;by_cases q:o=1
 ·rw[if_pos q] at h
  injection h with h;rw[<- h];exact gd_nul
 rw[if_neg q] at h;clear q;by_cases q:o=2\/o=3
 ·rw[if_pos q] at h
  exact hbo h
 rw[if_neg q] at h;clear q;by_cases q:o=4
 ·rw[if_pos q] at h
  injection h with h;rw[<- h];exact gd_int hi
 rw[if_neg q] at h;clear q;by_cases q:o=5
 ·rw[if_pos q] at h
  injection h with h
  rw[<- h];subst q;refine gd_str ?_;exact hft rfl
 rw[if_neg q] at h;clear q;by_cases q:o=6
 ·rw[if_pos q] at h
  cases e:ρ s with
  | none=>rw[e] at h;cases h
  | some c'=>rw[e] at h;injection h with h;rw[<- h];exact hρ _ _ e
 rw[if_neg q] at h;clear q;by_cases q:o=29\/o=30
 ·rw[if_pos q] at h
  revert h
  generalize bnd (p.getD 0 (.error 0)) isT=x
  generalize bnd (p.getD 1 (.error 0)) isT=y
  intro h;cases x with
  | error e=>cases h
  | ok b=>
   simp only [bnd] at h;by_cases q:b=decide (o=30)
   ·rw[if_pos q] at h;exact hbo h
   ·rw[if_neg q] at h
    cases y with
    | error e=>cases h
    | ok b=>exact hbo h
 rw[if_neg q] at h;clear q;by_cases q:o=31
 ·rw[if_pos q] at h
  revert h
  generalize bnd (p.getD 0 (.error 0)) isT=x
  intro h;cases x with
  | error e=>cases h
  | ok b=>
   simp only [bnd] at h;by_cases q:b=true
   ·rw[if_pos q] at h;exact hp _ _ h
   ·rw[if_neg q] at h;exact hp _ _ h
 rw[if_neg q] at h;clear q;cases hx:p.getD 0 (.error 0) with
 | error e=>rw[hx] at h;cases h
 | ok a=>
  rw[hx] at h;have ha:=hp _ _ hx;simp only [bnd] at h;have h17:∀ b,o=17->snd2 o i s p=.ok b->Gd b:=fun b e hb=>by subst e;exact hp 1 b hb
  revert h h17
  generalize snd2 o i s p=y
  intro h h17;cases y with
  | error e=>cases h
  | ok b=>exact pr2_gd ha (fun e=>h17 b e rfl) h
def xrL:List Ex->Prop
 | []=>True
 | .mk o i s l :: t=>(rg i/\(o=5->Pure.tg s=true)/\xrL l)/\xrL t
theorem evL_gd {ρ:Int->Option C} (hρ:∀ (j:Int) c,ρ j=some c->Gd c):∀ (l:List Ex) (hx:xrL l) (q:Nat) (c:C),(evL ρ l).getD q (.error 0)=.ok c->Gd c
 | [],_,q,c,h=>by rw[evL,List.getD_nil] at h;cases h
 | .mk o i s l :: t,hx,0,c,h=>by
  rw[evL,List.getD_cons_zero] at h;rw[xrL] at hx;exact node_gd (fun _ c h=>hρ i c h) hx.1.2.1 hx.1.1 (evL_gd hρ l hx.1.2.2) h
 | .mk o i s l :: t,hx,q+1,c,h=>by
  rw[evL,List.getD_cons_succ] at h;rw[xrL] at hx;exact evL_gd hρ t hx.2 q c h
def xr (x:Ex):Prop:=rg x.i/\(x.o=5->Pure.tg x.s=true)/\xrL x.l
theorem ev_gd {ρ:Int->Option C} (hρ:∀ (j:Int) c,ρ j=some c->Gd c) {x:Ex} (hx:xr x) {c:C} (h:ev ρ x=.ok c):Gd c:=node_gd (fun _ c h=>hρ x.i c h) hx.2.1 hx.1 (evL_gd hρ x.l hx.2.2) h
theorem Gd.wf {c:C} (h:Gd c):wf c:=GWf.code_wf h.1
end Go.Proofs.YtdolgmmldncfkaaGreatDoor.JGe

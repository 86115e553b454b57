import Derived.Test.YtdolgmmldncfkaaGreatDoorPJ19
import Derived.Test.YtdolgmmldncfkaaGreatDoorPJ29
import Derived.Test.YtdolgmmldncfkaaGreatDoorPJ35
import Derived.Test.YtdolgmmldncfkaaGreatDoorPJ37
import Derived.Test.YtdolgmmldncfkaaGreatDoorPJ44
open Go.Proofs.Tryz
set_option linter.unusedVariables false
set_option maxRecDepth 20000
set_option maxHeartbeats 3200000
namespace Go.Proofs.YtdolgmmldncfkaaGreatDoor.GRa
open Go.RowKit Base KNp KNd KAr VJn VRs GRe GRn GTh GTn
open VPure hiding evL
open TBase (T)
open KBase (Pt Fld Co RP RF)
open KVp (szL szL_cons szL_nil)
theorem own_ge (c:Co) (r s e l:Int):0<=own c r s e l:=by
 unfold own;repeat' split
 all_goals omega
theorem ndL_ge:∀ (n:Nat) (cs:List Co) (r s e l:Int),szL cs<=n->0<=(ndL cs r s e l).2:=by
 intro n;induction n with
 | zero=>
  intro cs r s e l hz;cases cs with
  | nil=>rw[ndL_nil];exact Int.le_refl _
  | cons d t=>rw[szL_cons] at hz;omega
 | succ n ih=>
  intro cs;induction cs with
  | nil=>intro r s e l hz;rw[ndL_nil];exact Int.le_refl _
  | cons d t iht=>
   intro r s e l hz;rw[szL_cons] at hz;have h1:0<=(ndL [d] r s e l).2:=by
    rw[ndL_one];split
    ·exact own_ge _ _ _ _ _
    ·split
     ·exact ih _ _ _ _ _ (by omega)
     ·exact ih _ _ _ _ _ (by omega)
   rw[ndL_cons];split
   ·exact h1
   ·exact iht _ _ _ _ (by omega)
theorem chk_ge (cs:List Co):0<=chk cs:=ndL_ge _ cs _ _ _ _ (Nat.le_refl _)
theorem ft_ge (c:C) (d q:Int):0<=Fault.ft c d q:=by
 unfold Fault.ft;repeat' split
 all_goals decide
theorem ms_ge:∀ (r:List (Nat × C)) (D k:Nat),0<=(Measure.ms D k r).2.2
 | [],_,_=>by rw[Measure.ms];exact Int.le_refl _
 | (d,c) :: r,D,k=>by
  rw[Measure.ms];split
  ·exact ms_ge r _ _
  ·exact ft_ge _ _ _
def vch (c:C):Int:=(Measure.ms 0 0 (Walk.pl 1 c)).2.2
def rnd (cs:List Co) (c:C):Except Nat (List T):=if chk cs≠0 then .error (chk cs).toNat else if vch c≠0 then .error (vch c).toNat else bnd (rnL (rn (szL cs) [c]) cs 4096 []) fun a=>.ok a.1
theorem render_nil {m mc:Nat} {w:World} {cv v:Value} {c:C} (hcs:KBase.InL false (fun b=>b<w.heap.size) w mc cv []) (hin:Base.In false (fun b=>b<w.heap.size) w (m+1) v c) (hms:vch c=0) (ht:Tb w) :
  Calls prog 7 #[cv,v] w fun e w'=>RR w (.ok []) e w':=by
 obtain⟨an,ln,cn,al,ll,cl,rfl⟩:=in_shape hin
 obtain⟨W0,hW0⟩ : ∃ W0,(w.alloc (.cells #[.int .i64 c.k,.bool c.b,.int .i64 c.i,.string c.s,.slice an ln cn,.slice al ll cl] 26)).alloc (.cells #[.slice none 0 0] 57)=W0:=⟨_,rfl⟩;have b0:Below w.heap.size w W0:=by rw[<- hW0];exact ((Below.refl _ w).alloc (Nat.le_refl _) _).alloc (by simp) _
 have s0:W0.heap.size=w.heap.size+2:=by rw[<- hW0];simp
 have hbb:W0.heap[w.heap.size+1]? = some (.cells #[.slice none 0 0] 57 (0,0)):=by
  rw[<- hW0];have:=heap_alloc_new (w.alloc (.cells #[.int .i64 c.k,.bool c.b,.int .i64 c.i,.string c.s,.slice an ln cn,.slice al ll cl] 26)) (.cells #[.slice none 0 0] 57);rwa [World.size_alloc] at this
 exact render_of hW0 (through_nil (K:=w.heap.size) (m:=m) (mc:=mc) (cs:=[]) ⟨by omega,by omega⟩ (hcs.keep (w':=W0) (fun b hb _=>b0.block b hb)) (hin.keep (w':=W0) (fun b hb _=>b0.block b hb)) hbb rfl (by unfold chk;rw[ndL_nil]) (by have:=dep_code hms;omega) hms (GWf.code_wf hms) (fun W hW=>ht W (b0.trans hW)))
theorem render_all {m mc:Nat} {w:World} {cv v:Value} {cs:List Co} {c:C} (hcs:KBase.InL false (fun b=>b<w.heap.size) w mc cv cs) (hin:Base.In false (fun b=>b<w.heap.size) w (m+1) v c) (ht:Tb w) :
  Calls prog 7 #[cv,v] w fun e w'=>RR w (rnd cs c) e w':=by
 have hcs':KBase.InL false (fun _=>True) w mc cv cs:=hcs.weak (fun _ _=>trivial) false id mc (Nat.le_refl _);have hin':Base.In false (fun _=>True) w (m+1) v c:=hin.weak (fun _ _=>trivial) false id _ (Nat.le_refl _);have g1:=chk_ge cs;have g2:0<=vch c:=ms_ge _ _ _;unfold rnd;by_cases h1:chk cs≠0
 ·rw[if_pos h1]
  exact render_no hcs' hin' (by omega) (.inl (by omega))
 rw[if_neg h1];by_cases h2:vch c≠0
 ·rw[if_pos h2]
  exact render_no hcs' hin' (by omega) (.inr ⟨by omega,by show vch c=_;omega⟩)
 rw[if_neg h2];cases cs with
 | nil=>exact render_nil hcs hin (by omega) ht
 | cons d t=>exact render_good hcs hin (by rw[szL_cons];omega) (by omega) (by show vch c=0;omega) ht
end Go.Proofs.YtdolgmmldncfkaaGreatDoor.GRa
namespace Go.Proofs.YtdolgmmldncfkaaGreatDoor.KJp
open Go.RowKit EPure KBase KAr KEx KLe KNp KNd KVp KPi
def esz:List Ex->Nat
 | []=>0
 | .mk o i s l :: t=>1+esz l+esz t
theorem esz_nil:esz []=0:=by rw[esz]
theorem esz_cons (x:Ex) (t:List Ex):esz (x :: t)=1+esz x.l+esz t:=by
 obtain⟨o,i,s,l⟩:=x;rw[esz];rfl
theorem bq_sz:∀ (n:Nat) (l:List Ex) (r:Int),SizeOf.sizeOf l<=n->((esz l:Int)<=r->bq l r=r - esz l)/\(¬ (esz l:Int)<=r->bq l r<0):=by
 intro n;induction n with
 | zero=>
  intro l r h;cases l with
  | nil=>rw[bq_nil,esz_nil];constructor <;> intro h <;> simp at h ⊢ <;> omega
  | cons x t=>exact absurd h (by simp)
 | succ n ih=>
  intro l r h;cases l with
  | nil=>rw[bq_nil,esz_nil];constructor <;> intro h <;> simp at h ⊢ <;> omega
  | cons x t=>
   obtain⟨o,i,s,k⟩:=x;rw[bq_cons,esz_cons];have e1:(Ex.mk o i s k).l=k:=rfl;rw[e1];have i1:=ih k (r - 1) (by simp at h;omega);by_cases hr:r<0
   ·rw[bq_no hr,bq_neg t hr]
    constructor <;> intro h <;> omega
   ·rw[bq_one hr]
    have i2:=ih t (bq k (r - 1)) (by simp at h;omega);by_cases hk:(esz k:Int)<=r - 1
    ·rw[i1.1 hk] at i2 ⊢
     constructor
     ·intro h
      rw[i2.1 (by omega)];omega
     ·intro h
      exact i2.2 (by omega)
    ·have hn:=i1.2 hk
     rw[bq_neg t hn];constructor <;> intro h <;> omega
def pz (c:Co):Nat:=1+c.f.length+c.p.length+c.x.length+esz (xsC c)
theorem lft_yes {c:Co} {r:Int} (h:(pz c:Int)<=r):lft c r=r - pz c:=by
 unfold pz at h ⊢;unfold lft;rw[(bq_sz _ (xsC c) _ (Nat.le_refl _)).1 (by omega)];omega
theorem lft_no {c:Co} {r:Int} (h : ¬ (pz c:Int)<=r):lft c r<0:=by
 unfold pz at h;unfold lft;exact (bq_sz _ (xsC c) _ (Nat.le_refl _)).2 (by omega)
def cz:List Co->Nat
 | []=>0
 | .mk k t f p x l u :: cs=>pz (.mk k t f p x l u)+cz l+cz u+cz cs
theorem cz_nil:cz []=0:=by rw[cz]
theorem cz_cons (c:Co) (t:List Co):cz (c :: t)=pz c+cz c.l+cz c.u+cz t:=by
 obtain⟨k,tg,f,p,x,l,u⟩:=c;rw[cz];rfl
def ow (dp:Bool) (c:Co) (s e l:Int):Bool:=(dp || !(deep (ent c s e l).1.1 (ent c s e l).1.2.1 (ent c s e l).1.2.2)) && ((ent c s e l).2 && ((xsC c).all KSh.rsv && plc c s (ent c s e l).1.1))
def okL (dp:Bool):List Co->Int->Int->Int->Bool
 | [],_,_,_=>true
 | .mk k t f p x l u :: cs,s,e,lo=>ow dp (.mk k t f p x l u) s e lo && (okL dp l (ent (.mk k t f p x l u) s e lo).1.1 (ent (.mk k t f p x l u) s e lo).1.2.1 (ent (.mk k t f p x l u) s e lo).1.2.2 && (okL dp u (ent (.mk k t f p x l u) s e lo).1.1 (ent (.mk k t f p x l u) s e lo).1.2.1 (ent (.mk k t f p x l u) s e lo).1.2.2 && okL dp cs s e lo))
theorem okL_nil (dp:Bool) (s e l:Int):okL dp [] s e l=true:=by rw[okL]
theorem okL_cons (dp:Bool) (c:Co) (t:List Co) (s e l:Int):okL dp (c :: t) s e l=(ow dp c s e l && (okL dp c.l (ent c s e l).1.1 (ent c s e l).1.2.1 (ent c s e l).1.2.2 && (okL dp c.u (ent c s e l).1.1 (ent c s e l).1.2.1 (ent c s e l).1.2.2 && okL dp t s e l))):=by
 obtain⟨k,tg,f,p,x,l',u⟩:=c;rw[okL];rfl
theorem okL_append (dp:Bool) (a b:List Co) (s e l:Int):okL dp (a ++ b) s e l=(okL dp a s e l && okL dp b s e l):=by
 induction a with
 | nil=>rw[List.nil_append,okL_nil,Bool.true_and]
 | cons c t ih=>rw[List.cons_append,okL_cons,okL_cons,ih];simp only [Bool.and_assoc]
theorem own_iff {c:Co} {r s e l:Int}:own c r s e l=0 ↔ 0<=r/\ow false c s e l=true:=by
 unfold ow;rw[Bool.false_or];constructor
 ·intro h
  obtain⟨h1,h2,h3,h4,h5⟩:=own_zero h;refine⟨by omega,?_⟩;rw[h2,h3,h4,h5];rfl
 ·rintro⟨h1,h2⟩
  simp only [Bool.and_eq_true, Bool.not_eq_true'] at h2;obtain⟨g1,g2,g3,g4⟩:=h2;unfold own;rw[if_neg (by omega),g1,if_neg (by simp),g2,if_neg (by simp),g3,if_neg (by simp),g4,if_neg (by simp)]
theorem nd_ok:∀ (n:Nat) (dp:Bool) (cs:List Co) (r s e l:Int),SizeOf.sizeOf cs<=n->okL dp cs s e l=true->0<=r ->
  ((ndL cs r s e l).2=0\/(ndL cs r s e l).2=1504\/(dp=true/\(ndL cs r s e l).2=1503))/\((ndL cs r s e l).2=0->(ndL cs r s e l).1=r - cz cs)/\(dp=false->(cz cs:Int)<=r->(ndL cs r s e l).2=0):=by
 intro n;induction n with
 | zero=>
  intro dp cs r s e l h _ hr;cases cs with
  | nil=>rw[ndL_nil,cz_nil];exact⟨.inl rfl,fun _=>by simp,fun _ _=>rfl⟩
  | cons c t=>exact absurd h (by simp)
 | succ n ih=>
  intro dp cs r s e l h hok hr;cases cs with
  | nil=>rw[ndL_nil,cz_nil];exact⟨.inl rfl,fun _=>by simp,fun _ _=>rfl⟩
  | cons c t=>
   rw[okL_cons] at hok;simp only [Bool.and_eq_true] at hok;obtain⟨o1,o2,o3,o4⟩:=hok;have hone:((ndL [c] r s e l).2=0\/(ndL [c] r s e l).2=1504\/(dp=true/\(ndL [c] r s e l).2=1503))/\((ndL [c] r s e l).2=0->(ndL [c] r s e l).1=r - (pz c+cz c.l+cz c.u:Nat))/\(dp=false->((pz c+cz c.l+cz c.u:Nat):Int)<=r->(ndL [c] r s e l).2=0):=by
    rw[ndL_one];by_cases hp:(pz c:Int)<=r
    ·rw[lft_yes hp]
     have hw:=o1;unfold ow at hw;simp only [Bool.and_eq_true] at hw;obtain⟨w1,w2,w3,w4⟩:=hw;by_cases hd:deep (ent c s e l).1.1 (ent c s e l).1.2.1 (ent c s e l).1.2.2=true
     ·have e1:own c (r - pz c) s e l=1503:=by unfold own;rw[if_neg (by omega),if_pos hd]
      have hdp:dp=true:=by
       cases dp with
       | true=>rfl
       | false=>rw[hd] at w1;simp at w1
      rw[e1,if_pos (by simp)];exact⟨.inr (.inr ⟨hdp,rfl⟩),fun h=>by simp at h,fun h=>by rw[hdp] at h;cases h⟩
     ·have e1:own c (r - pz c) s e l=0:=by
       unfold own;rw[if_neg (by omega),if_neg hd,w2,if_neg (by simp),w3,if_neg (by simp),w4,if_neg (by simp)]
      rw[e1,if_neg (by simp)];obtain⟨k,tg,f,p,x,l',u⟩:=c;have i1:=ih dp l' (r - pz (.mk k tg f p x l' u)) _ _ _ (by simp at h;omega) o2 (by omega);have q1:(Co.mk k tg f p x l' u).l=l':=rfl;have q2:(Co.mk k tg f p x l' u).u=u:=rfl;rw[q1,q2];by_cases hz:(ndL l' (r - pz (.mk k tg f p x l' u)) (ent (.mk k tg f p x l' u) s e l).1.1 (ent (.mk k tg f p x l' u) s e l).1.2.1 (ent (.mk k tg f p x l' u) s e l).1.2.2).2=0
      ·rw[if_neg (by simpa using hz)]
       have r1:=ndL_room _ l' (r - pz (.mk k tg f p x l' u)) _ _ _ (Nat.le_refl _) hz (by omega);have i2:=ih dp u _ (ent (.mk k tg f p x l' u) s e l).1.1 (ent (.mk k tg f p x l' u) s e l).1.2.1 (ent (.mk k tg f p x l' u) s e l).1.2.2 (by simp at h;omega) o3 r1.1;have j1:=i1.2.1 hz;rw[j1] at i2 ⊢;refine⟨i2.1,fun h=>?_,fun h1 h2=>i2.2.2 h1 (by omega)⟩;have:=i2.2.1 h;omega
      ·rw[if_pos (by simpa using hz)]
       refine⟨i1.1,fun h=>absurd h hz,fun h1 h2=>absurd (i1.2.2 h1 (by omega)) hz⟩
    ·have hn:=lft_no hp
     have e1:own c (lft c r) s e l=1504:=by unfold own;rw[if_pos hn]
     rw[e1,if_pos (by simp)];exact⟨.inr (.inl rfl),fun h=>by simp at h,fun _ h=>by omega⟩
   rw[ndL_cons,cz_cons];by_cases hz:(ndL [c] r s e l).2=0
   ·rw[if_neg (by simpa using hz)]
    have r1:=ndL_room _ [c] r s e l (Nat.le_refl _) hz hr;have i2:=ih dp t _ s e l (by simp at h;omega) o4 r1.1;have j1:=hone.2.1 hz;rw[j1] at i2 ⊢;refine⟨i2.1,fun h=>?_,fun h1 h2=>i2.2.2 h1 (by omega)⟩;have:=i2.2.1 h;omega
   ·rw[if_pos (by simpa using hz)]
    exact⟨hone.1,fun h=>absurd h hz,fun h1 h2=>absurd (hone.2.2 h1 (by omega)) hz⟩
theorem ok_of:∀ (n:Nat) (cs:List Co) (r s e l:Int),SizeOf.sizeOf cs<=n->(ndL cs r s e l).2=0->okL false cs s e l=true:=by
 intro n;induction n with
 | zero=>
  intro cs r s e l h _;cases cs with
  | nil=>exact okL_nil _ _ _ _
  | cons c t=>exact absurd h (by simp)
 | succ n ih=>
  intro cs r s e l h h0;cases cs with
  | nil=>exact okL_nil _ _ _ _
  | cons c t=>
   obtain⟨h1,h2,h3⟩:=ok_cons h0;obtain⟨g1,g2,g3,g4⟩:=ok_one h1;rw[okL_cons,(own_iff.1 g1).2];obtain⟨k,tg,f,p,x,l',u⟩:=c;have i1:=ih l' _ _ _ _ (by simp at h;omega) g2;have i2:=ih u _ _ _ _ (by simp at h;omega) g3;have i3:=ih t _ _ _ _ (by simp at h;omega) h2;have q1:(Co.mk k tg f p x l' u).l=l':=rfl;have q2:(Co.mk k tg f p x l' u).u=u:=rfl;rw[q1,q2,i1,i2,i3];rfl
theorem chk_join {a b:List Co} (ha:chk a=0) (hb:chk b=0):chk (a ++ b)=0\/chk (a ++ b)=1504:=by
 have h1:=ok_of _ a _ _ _ _ (Nat.le_refl _) ha;have h2:=ok_of _ b _ _ _ _ (Nat.le_refl _) hb;have:=(nd_ok _ false (a ++ b) 4096 1 0 0 (Nat.le_refl _) (by rw[okL_append,h1,h2];rfl) (by omega)).1;rcases this with h|h|⟨h,-⟩
 ·exact .inl h
 ·exact .inr h
 ·cases h
theorem ent_e (c:Co) (s e l:Int):ent c s (e+1) l=(((ent c s e l).1.1,(ent c s e l).1.2.1+1,(ent c s e l).1.2.2),(ent c s e l).2):=by
 unfold ent;repeat' split
 all_goals rfl
theorem okL_deeper:∀ (n:Nat) (cs:List Co) (s e l:Int),SizeOf.sizeOf cs<=n->okL false cs s e l=true->okL true cs s (e+1) l=true:=by
 intro n;induction n with
 | zero=>
  intro cs s e l h _;cases cs with
  | nil=>exact okL_nil _ _ _ _
  | cons c t=>exact absurd h (by simp)
 | succ n ih=>
  intro cs s e l h hok;cases cs with
  | nil=>exact okL_nil _ _ _ _
  | cons c t=>
   rw[okL_cons] at hok ⊢;simp only [Bool.and_eq_true] at hok;obtain⟨o1,o2,o3,o4⟩:=hok;have hw:ow true c s (e+1) l=true:=by
    unfold ow at o1 ⊢;simp only [Bool.and_eq_true] at o1;rw[ent_e];dsimp only
    rw[o1.2.1,o1.2.2.1,o1.2.2.2];rfl
   rw[hw,ent_e];dsimp only
   obtain⟨k,tg,f,p,x,l',u⟩:=c;rw[ih _ _ _ _ (by simp [Co.l] at h ⊢;omega) o2,ih _ _ _ _ (by simp [Co.u] at h ⊢;omega) o3,ih t _ _ _ (by simp at h;omega) o4];rfl
end Go.Proofs.YtdolgmmldncfkaaGreatDoor.KJp
namespace Go.Proofs.YtdolgmmldncfkaaGreatDoor.GRj
open Go.RowKit Base EPure KBase KAr KEx KNp KNd KJp JPure GPl GNe GRn GZp GRm GRf GRa GAp
open VPure hiding evL
open TBase (T)
open KVp (szL szL_cons szL_nil)
def eQ (a:List Co):Co:=.mk 2 ⟨#[113]⟩ [] [] [] a []
def iC (x:Ex) (k e:List Co):Co:=.mk 3 nl [] [] [x] k e
def wC (a:List Co):Co:=.mk 5 nl [] [] [] a []
def bE (o:Int):Ex:=.mk o 0 nl []
theorem rnd_parts {cs:List Co} {c:C} {F:List T} (h:rnd cs c=.ok F):chk cs=0/\vch c=0/\∃ s,rnL (rn (szL cs) [c]) cs 4096 []=.ok (F,s)/\0<=s/\s<=4096:=by
 unfold rnd at h;by_cases h1:chk cs≠0
 ·rw[if_pos h1] at h
  cases h
 rw[if_neg h1] at h;by_cases h2:vch c≠0
 ·rw[if_pos h2] at h
  cases h
 rw[if_neg h2] at h;obtain⟨a,e1,e2⟩:=bnd_ok h;injection e2 with e2
 subst e2;obtain⟨⟨l1,l2⟩,-⟩:=md_rnL cs [] (fun d _=>md_rn (szL cs) [c] d) 4096 a (by omega) e1;exact⟨by omega,by omega,a.2,e1,l1,l2⟩
theorem rnd_of {cs:List Co} {c:C} (h1:chk cs=0) (h2:vch c=0):rnd cs c=bnd (rnL (rn (szL cs) [c]) cs 4096 []) fun a=>.ok a.1:=by
 unfold rnd;rw[if_neg (by omega),if_neg (by omega)]
theorem rnd_chk {cs:List Co} {c:C} (h1:chk cs≠0):rnd cs c=.error (chk cs).toNat:=by
 unfold rnd;rw[if_pos h1]
theorem rnd_join {a b:List Co} {c:C} {F G:List T} (ha:rnd a c=.ok F) (hb:rnd b c=.ok G):rnd (a ++ b) c=.ok (F ++ G)\/rnd (a ++ b) c=.error 1504\/rnd (a ++ b) c=.error 1601:=by
 obtain⟨a1,a2,s,a3,-,-⟩:=rnd_parts ha;obtain⟨b1,-,t,b3,-,-⟩:=rnd_parts hb;rcases chk_join a1 b1 with h|h
 ·rw[rnd_of h a2]
  have hz:=szL_app a b;rw[rnL_fuel (n':=szL (a ++ b)) (by omega) (by omega)] at a3 b3;rw[rn_join a3 b3];by_cases hr:4096 - t<=s
  ·rw[if_pos hr]
   exact .inl rfl
  ·rw[if_neg hr]
   exact .inr (.inr rfl)
 ·rw[rnd_chk (by omega),h]
  exact .inr (.inl rfl)
theorem okL_weak:∀ (n:Nat) (cs:List Co) (s e l:Int),SizeOf.sizeOf cs<=n->okL false cs s e l=true->okL true cs s e l=true:=by
 intro n;induction n with
 | zero=>
  intro cs s e l h _;cases cs with
  | nil=>exact okL_nil _ _ _ _
  | cons c t=>exact absurd h (by simp)
 | succ n ih=>
  intro cs s e l h hok;cases cs with
  | nil=>exact okL_nil _ _ _ _
  | cons c t=>
   rw[okL_cons] at hok ⊢;simp only [Bool.and_eq_true] at hok;obtain⟨o1,o2,o3,o4⟩:=hok;have hw:ow true c s e l=true:=by
    unfold ow at o1 ⊢;simp only [Bool.and_eq_true] at o1;rw[o1.2.1,o1.2.2.1,o1.2.2.2];rfl
   obtain⟨k,tg,f,p,x,l',u⟩:=c;rw[hw,ih _ _ _ _ (by simp [Co.l] at h ⊢;omega) o2,ih _ _ _ _ (by simp [Co.u] at h ⊢;omega) o3,ih t _ _ _ (by simp at h;omega) o4];rfl
theorem chk_one {X:Co} (h:okL true [X] 1 0 0=true):chk [X]=0\/chk [X]=1504\/chk [X]=1503:=by
 rcases (nd_ok _ true [X] 4096 1 0 0 (Nat.le_refl _) h (by omega)).1 with h|h|⟨-,h⟩
 ·exact .inl h
 ·exact .inr (.inl h)
 ·exact .inr (.inr h)
theorem rs_b {o:Int} (ho:o=2\/o=3):KSh.rsv (bE o)=true:=bh_leaf (by rcases ho with rfl|rfl <;> decide) (by rcases ho with rfl|rfl <;> decide)
theorem hs_b (o s:Int) (ho:o=2\/o=3):KHs.hs s [bE o]=true:=by
 unfold bE;rw[KHs.hs_one,KHs.hs_nil];rcases ho with rfl|rfl <;> rfl
theorem wd_q:UBase.word ⟨#[113]⟩ 45=true:=by decide
theorem chk_eQ {a:List Co} (ha:chk a=0):chk [eQ a]=0\/chk [eQ a]=1504\/chk [eQ a]=1503:=by
 refine chk_one ?_;have h1:=okL_deeper _ a 1 0 0 (Nat.le_refl _) (ok_of _ a _ _ _ _ (Nat.le_refl _) ha);have he:ent (eQ a) 1 0 0=((1,0+1,0),true):=by
  have:ent (eQ a) 1 0 0=((1,0+1,0),(UBase.word ⟨#[113]⟩ 45 && KFd.fl1 none []) && bare ⟨#[]⟩ 0 0 0 0 0):=rfl;rw[this,wd_q];rfl
 have hw:ow true (eQ a) 1 0 0=true:=by
  unfold ow;rw[he];have hk:(eQ a).k=2:=rfl;have hx:xsC (eQ a)=[]:=rfl;unfold plc;rw[hk,if_neg (by decide),hx];rfl
 have q1:(eQ a).l=a:=rfl;have q2:(eQ a).u=[]:=rfl;rw[okL_cons,okL_nil,hw,he,q1,q2,okL_nil];dsimp only
 rw[h1];rfl
theorem chk_iC {o:Int} (ho:o=2\/o=3) {a b:List Co} (ha:chk a=0) (hb:chk b=0):chk [iC (bE o) a b]=0\/chk [iC (bE o) a b]=1504\/chk [iC (bE o) a b]=1503:=by
 refine chk_one ?_;have h1:=okL_weak _ a 1 0 0 (Nat.le_refl _) (ok_of _ a _ _ _ _ (Nat.le_refl _) ha);have h2:=okL_weak _ b 1 0 0 (Nat.le_refl _) (ok_of _ b _ _ _ _ (Nat.le_refl _) hb);have he:ent (iC (bE o) a b) 1 0 0=((1,0,0),true):=rfl;have hw:ow true (iC (bE o) a b) 1 0 0=true:=by
  unfold ow;rw[he];have hk:(iC (bE o) a b).k=3:=rfl;have hx:xsC (iC (bE o) a b)=[bE o]:=rfl;unfold plc;rw[hk,if_neg (by decide),hx];simp [rs_b ho, hs_b o 1 ho]
 have q1:(iC (bE o) a b).l=a:=rfl;have q2:(iC (bE o) a b).u=b:=rfl;rw[okL_cons,okL_nil,hw,he,q1,q2];dsimp only
 rw[h1,h2];rfl
theorem chk_wC {a:List Co} (ha:chk a=0):chk [wC a]=0\/chk [wC a]=1504\/chk [wC a]=1503:=by
 refine chk_one ?_;have h1:=okL_weak _ a 1 0 0 (Nat.le_refl _) (ok_of _ a _ _ _ _ (Nat.le_refl _) ha);have he:ent (wC a) 1 0 0=((1,0,0),true):=rfl;have hw:ow true (wC a) 1 0 0=true:=by
  unfold ow;rw[he];have hk:(wC a).k=5:=rfl;have hx:xsC (wC a)=[]:=rfl;unfold plc;rw[hk,if_neg (by decide),hx];rfl
 have q1:(wC a).l=a:=rfl;have q2:(wC a).u=[]:=rfl;rw[okL_cons,okL_nil,hw,he,q1,q2,okL_nil];dsimp only
 rw[h1];rfl
def Ar (X:Co) (c:C) (F:List T):Prop:=rnd [X] c=.ok F\/rnd [X] c=.error 1504\/rnd [X] c=.error 1503\/rnd [X] c=.error 1601
theorem ar_of {X:Co} {c:C} {F:List T} (hv:vch c=0) (hc:chk [X]=0\/chk [X]=1504\/chk [X]=1503) (h:rn (szL [X]) [c] X 4096=.error 1601 \/ ∃ s,rn (szL [X]) [c] X 4096=.ok (F,s)):Ar X c F:=by
 rcases hc with h0|h0|h0
 ·unfold Ar
  rw[rnd_of h0 hv,rnL];rcases h with h|⟨s,h⟩
  ·rw[h]
   exact .inr (.inr (.inr rfl))
  ·rw[h]
   refine .inl ?_;show bnd (rnL (rn (szL [X]) [c]) [] s ([] ++ F)) _=_;rw[rnL];rfl
 ·exact .inr (.inl (by rw[rnd_chk (by omega),h0];rfl))
 ·exact .inr (.inr (.inl (by rw[rnd_chk (by omega),h0];rfl)))
theorem sz_one (X:Co):szL [X]=(szL X.l+szL X.u)+1:=by rw[szL_cons,szL_nil];omega
theorem ar_eQ {a:List Co} {c:C} {F:List T} (ha:rnd a c=.ok F):Ar (eQ a) c [T.mk ⟨#[113]⟩ nl [] F]:=by
 obtain⟨a1,a2,s,a3,s0,s1⟩:=rnd_parts ha;refine ar_of a2 (chk_eQ a1) ?_;have q1:(eQ a).l=a:=rfl;have q2:(eQ a).u=[]:=rfl;have q3:(eQ a).k=2:=rfl;have q4:(eQ a).f=[]:=rfl;rw[sz_one,q1,q2,szL_nil,rn,if_neg (by rw[q3];decide),if_pos q3,q1,q4];have k:=(md_rnL a [] (fun d _=>md_rn (szL a) [c] d) 4096 (F,s) (by omega) a3).2 (4096 - 1) (by omega) (by omega);have k:rnL (rn (szL a) [c]) a (4096 - 1) []=if 4096 - s<=4096 - 1 then .ok (F,4096 - 1 - (4096 - s)) else .error 1601:=k
 unfold nE;rw[if_neg (by decide),k,GAs.ats];by_cases h:4096 - s<=4096 - 1
 ·rw[if_pos h]
  exact .inr ⟨_,rfl⟩
 ·rw[if_neg h]
  exact .inl rfl
theorem ar_iC {o:Int} (ho:o=2\/o=3) {a b:List Co} {c:C} {F:List T} (hx:rnd (if o=3 then a else b) c=.ok F) (ha:chk a=0) (hb:chk b=0):Ar (iC (bE o) a b) c F:=by
 obtain⟨a1,a2,s,a3,s0,s1⟩:=rnd_parts hx;refine ar_of a2 (chk_iC ho ha hb) (.inr ⟨s,?_⟩);have q1:(iC (bE o) a b).l=a:=rfl;have q2:(iC (bE o) a b).u=b:=rfl;have q3:(iC (bE o) a b).k=3:=rfl;have q4:x0 (iC (bE o) a b)=bE o:=rfl;have q5:bnd (ev (rh [c]) (bE o)) isT=.ok (decide (o=3)):=by
  rcases ho with rfl|rfl <;> rfl
 rw[sz_one,q1,q2,rn,if_neg (by rw[q3];decide),if_neg (by rw[q3];decide),if_pos q3,q1,q2,q4,q5];show rnL (rn (szL a+szL b) [c]) (if decide (o=3)=true then a else b) 4096 []=_;rcases ho with rfl|rfl
 ·rw[if_neg (by decide)] at a3 ⊢
  rw[<- a3];exact rnL_fuel (by omega) (Nat.le_refl _) _ _
 ·rw[if_pos rfl] at a3
  rw[if_pos (by decide),<- a3];exact rnL_fuel (by omega) (Nat.le_refl _) _ _
theorem ar_wC {a:List Co} {c:C} {F:List T} (ha:rnd a c=.ok F):Ar (wC a) c F:=by
 obtain⟨a1,a2,s,a3,s0,s1⟩:=rnd_parts ha;refine ar_of a2 (chk_wC a1) (.inr ⟨s,?_⟩);have q1:(wC a).l=a:=rfl;have q2:(wC a).u=[]:=rfl;have q3:(wC a).k=5:=rfl;have q4:(wC a).x=[]:=rfl;rw[sz_one,q1,q2,szL_nil,rn,if_neg (by rw[q3];decide),if_neg (by rw[q3];decide),if_neg (by rw[q3];decide),if_neg (by rw[q3];decide),q1,q4,wth];exact a3
end Go.Proofs.YtdolgmmldncfkaaGreatDoor.GRj
namespace Go.Proofs.YtdolgmmldncfkaaGreatDoor.XCp
open Go.RowKit EPure XBase
open Base (nx All heap_alloc_new add_none Keep)
open XLend
def Copies (m:Nat):Prop:=∀ (v:Value) (c:Ex) (w:World),In false All w m v c ->
  Calls prog 57 #[v] w fun e w'=>∃ u,e=.returned u/\In false (Rg w.heap.size w'.heap.size) w' m u c/\Below w.heap.size w w'
theorem copyXs_of (m:Nat) (hm:Copies m) (v:Value) (l:List Ex) (w:World) (h:InL false All w m v l) :
  Calls prog 38 #[v] w fun e w'=>∃ u,e=.returned u/\InL false (Rg w.heap.size w'.heap.size) w' m u l/\Below w.heap.size w w':=by
 obtain⟨i0,hi,hz0,hz1,hz2⟩:=info_parts infoX;obtain⟨a,cap,rfl,hlc,hcm,hlen,hnil,hL⟩:=h;go_enter func38,ntmps38;go_wp2_with fail
 go_loopw [3,4] (fun out i wr=>∃ (q:Nat) (us:List Value),q<=l.length/\us.length=q/\i=.int .i64 q/\OwnV wr w.heap.size out us /\
   (∀ j (h:j<us.length) (h':j<l.length),In false (El w.heap.size wr.heap.size out) wr m us[j] l[j])/\Below w.heap.size w wr) (fun _ i _=>l.length - (intOf i).toNat)
 case atStart=>exact⟨0,[],by omega,rfl,rfl,⟨World.ownsRow_nil _ _ _ _,fun x hx=>by cases hx⟩,fun j h=>by simp at h,Below.refl _ _⟩
 case round=>
  obtain⟨q,us,hq,hus,rfl,hown,hels,hb⟩:=hrel;have hsz:=hb.size;by_cases hlt:q<l.length
  ·obtain⟨g,o,u,rfl,-,hu,hin⟩:=elem_at hL hlt
   have hu:=four_below hu hb;have hin:=hin.below hb;obtain⟨v0,v1,v2,v3,rfl,d0,d1,d2,d3⟩:=hu;have c10:=hm _ _ wr hin
   have HH:=Base.hid hels;have Hus:=Base.hid hus;have Hown:=Base.hid hown;have hrow:=hown.1;have hlen2:us.length=q:=hus;clear hels hin hus hown;go_wp2_with (first
    | (go_at_call 57;refine c10.mono ?_;rintro e w1 ⟨u,rfl,hin1,b1⟩;obtain⟨x0,x1,x2,x3,rfl,hone⟩:=(In.four hin1);have hrow1:=World.ownsRow.alloc (own_below hrow b1) (.cells #[x0,x1,x2,x3] 44);have hs1:=b1.size)
    | (at_builtin;refine wpList_append_own_at _ rfl _ _ 40 rfl w.heap.size 44 i0 (.agg #[.int .i64 0,.int .i64 0,.string ⟨#[]⟩,.slice none 0 0]) 4 56 underlying40 hi hz0 hz1 hz2 rfl (by decide) _ _ _ rfl hrow1 ⟨w1.heap.size,0,none⟩ 1 1 [x0,x1,x2,x3] rfl rfl (new_cells w1 _ 44) hone (by unfold maxLen;omega) (by omega) (by simp;omega) ?_))
   intro v' w2 hown' hgrow _ hat;have hels2:=els_step HH.out Hus.out hlt Hown.out b1 hin1 hsz _ hgrow hat;have hb3:=((hb.trans (b1.mono hsz)).alloc (by omega) (.cells #[x0,x1,x2,x3] 44)).grown hgrow (by simp;omega) (fun k hk=>(World.ownsRow.lt hrow k hk).1);have ho2:OwnV w2 w.heap.size v' (us ++ [.agg #[x0,x1,x2,x3]]):=by
    refine⟨?_,fours_snoc Hown.out.2 ⟨_,_,_,_,rfl,hone⟩⟩;rw[flat_append,List.length_append,hlen2];exact hown'
   have hlen3:(us ++ [Value.agg #[x0,x1,x2,x3]]).length=q+1:=by simp [hlen2]
   obtain⟨us2,hus2⟩ : ∃ us2,us ++ [Value.agg #[x0,x1,x2,x3]]=us2:=⟨_,rfl⟩;rw[hus2] at hels2 ho2 hlen3;have H2:Hid (∀ j (h:j<us2.length) (h':j<l.length),In false (El w.heap.size w2.heap.size v') w2 m us2[j] l[j]):=fun j h h'=>hels2 j h h'
   clear hown' hgrow hat hrow hrow1 Hown HH Hus hels2 hus2 hin1 hone c10;go_wp2_with fail
   go_roundw
   case rel=>exact⟨q+1,us2,by omega,hlen3,by go_num,ho2,H2.out,hb3⟩
   case measure=>simp only [intOf];omega
  ·obtain rfl:q=l.length:=by omega
   have hnlt:decide ((l.length:Int)<(l.length:Int))=false:=by simp
   have HH:=Base.hid hels;have Hown:=Base.hid hown;have Hus:=Base.hid hus;clear hels hus hown;go_wp2_with fail
   go_ret
   have hus:=Hus.out;have ho2:=Hown.out;rcases ho2.1.2 with ⟨h0,h1⟩|⟨g,cap2,cur,rfl,_,_,hn2,hm2,_⟩
   ·have hl0:l=[]:=List.eq_nil_of_length_eq_zero (by omega)
    subst hl0;exact⟨_,rfl,⟨none,0,h0,by simp,by simp,by simp,fun _=>rfl,.inl ⟨rfl,rfl⟩⟩,hb⟩
   ·have ho3:=ho2
    rw[hus] at ho3;refine⟨_,rfl,?_,hb⟩;try rw[hus]
    refine⟨some ⟨g,0,none⟩,cap2,rfl,by omega,hm2,hlen,(fun h=>by cases h),.inr ⟨g,0,rfl,⟨(ownV_lt ho2).1,(ownV_lt ho2).2⟩,?_,fun h=>by cases h⟩⟩;intro j hj;exact⟨_,ownV_four ho2 j (by omega),(HH.out j (by omega) hj).weak (fun b hS=>⟨hS.1,hS.2.1⟩) false id m (Nat.le_refl _)⟩
theorem copyX_of (m:Nat) (hm:∀ (v:Value) (l:List Ex) (w:World),InL false All w m v l ->
   Calls prog 38 #[v] w fun e w'=>∃ u,e=.returned u/\InL false (Rg w.heap.size w'.heap.size) w' m u l/\Below w.heap.size w w'):Copies (m+1):=by
 intro v c w h;obtain⟨o,i,s,l⟩:=c;rw[in_iff] at h;obtain⟨lv,rfl,ho,hi,hs,hl⟩:=h;obtain⟨W0,hW0⟩ : ∃ W0,(w.alloc (.cells #[.int .i64 o,.int .i64 i,.string s,lv] 44)).alloc (.cells #[.int .i64 0,.int .i64 0,.string ⟨#[]⟩,.slice none 0 0] 44)=W0:=⟨_,rfl⟩;have hb0:Below w.heap.size w W0:=by rw[<- hW0];exact ((Below.refl _ w).alloc (Nat.le_refl _) _).alloc (by simp) _
 have hsz0:W0.heap.size=w.heap.size+2:=by rw[<- hW0];simp
 have hx0:W0.heap[w.heap.size]? = some (.cells #[.int .i64 o,.int .i64 i,.string s,lv] 44):=by
  rw[<- hW0,Below.heap_alloc _ _ _ (by simp),heap_alloc_new]
 have hx1:W0.heap[w.heap.size+1]? = some (.cells #[.int .i64 0,.int .i64 0,.string ⟨#[]⟩,.slice none 0 0] 44):=by
  have:=heap_alloc_new (w.alloc (.cells #[.int .i64 o,.int .i64 i,.string s,lv] 44)) (.cells #[.int .i64 0,.int .i64 0,.string ⟨#[]⟩,.slice none 0 0] 44);rwa [hW0,World.size_alloc] at this
 have c35:=hm lv l W0 (hl.below hb0);obtain⟨-,-,-,e3⟩:=four_box hx0;go_enter func57,ntmps57;go_wp2_with fail
 refine c35.mono ?_;rintro e w2 ⟨lu,rfl,hl2,b2⟩;have hy0:=(b2.block w.heap.size (by omega)).trans hx0;have hy1:=(b2.block (w.heap.size+1) (by omega)).trans hx1;clear c35 hx0 hx1 hW0 e3;have f3:=frozen_box hy0 3;have hs2:=b2.size;obtain⟨d0,d1,d2,d3⟩:=four_box hy0;obtain⟨W2,hW2⟩ : ∃ W2,w2.setCell ⟨w.heap.size,3,none⟩ lu=W2:=⟨_,rfl⟩;have hz0:W2.heap[w.heap.size]? = some (.cells #[.int .i64 o,.int .i64 i,.string s,lu] 44 (0,0)):=by rw[<- hW2,block_set hy0];rfl
 have hz1:W2.heap[w.heap.size+1]? = some (.cells #[.int .i64 0,.int .i64 0,.string ⟨#[]⟩,.slice none 0 0] 44 (0,0)):=by rw[<- hW2,Below.heap_setCell _ _ _ _ (by simp)];exact hy1
 have hsz2:W2.heap.size=w2.heap.size:=by rw[<- hW2];simp [World.setCell]
 have hb2:Below w.heap.size w W2:=by rw[<- hW2];exact (hb0.trans (b2.mono (by omega))).setCell (p:=⟨w.heap.size,3,none⟩) (Nat.le_refl _) _
 have hl3:InL false (Rg W0.heap.size w2.heap.size) W2 m lu l:=hl2.keep fun b hS hb=>by rw[<- hW2];exact Below.heap_setCell _ _ _ _ (by have:=hS.1;simp;omega)
 obtain⟨al,cl,rfl,-⟩:=hl2;clear hy0 hy1;obtain⟨k0,k1,k2,k3⟩:=four_box hz0;obtain⟨e0,e1,e2,e3⟩:=four_box hz1;obtain⟨g0,g1,g2,g3⟩:=Base.frz4 hz1;go_wp2_with fail
 obtain⟨W3,hW3⟩ : ∃ W3,((((W2.setCell ⟨w.heap.size+1,0,none⟩ (.int .i64 o)).setCell ⟨w.heap.size+1,1,none⟩ (.int .i64 i)).setCell
  ⟨w.heap.size+1,2,none⟩ (.string s)).setCell ⟨w.heap.size+1,3,none⟩ (.slice al l.length cl))=W3:=⟨_,rfl⟩
 rw[hW3];obtain⟨q1,q2,q3,q4⟩:=set4 _ _ _ _ hz1 hW3;refine bodyPost_ret (results_cell_row rfl _ W3 (w.heap.size+1) 44 _ (0,0) _ rfl q1 underlying44 rfl (by kernel_rfl)) rfl ?_;refine⟨_,rfl,?_,q4 _ _ (by omega) hb2⟩;rw[in_iff];refine⟨_,rfl,ho,hi,hs,?_⟩;exact (hl3.keep fun b hS hb=>q2 b (by have:=hS.1;omega)).weak (m:=m) (fun b hS=>⟨by have:=hS.1;omega,by have:=hS.2;omega⟩) false id m (Nat.le_refl _)
theorem copyAll:∀ m,Copies m:=by
 intro m;induction m with
 | zero=>intro v c w h;rw[XBase.In] at h;exact h.elim
 | succ m ih=>exact copyX_of m (copyXs_of m ih)
end Go.Proofs.YtdolgmmldncfkaaGreatDoor.XCp

import Derived.Below
import Derived.BigQuiet
import Derived.Laws.AppendOwn
import Derived.Laws.OwnMore
import Derived.LoopN
import Derived.LoopTactic
import Derived.Maps.AppendAt
import Derived.ProofKit
import Derived.Test.YtdolgmmldncfkaaGreatDoorProg
import Derived.WalkKit
import Derived.Test.YtdolgmmldncfkaaGreatDoorPJ00
import Derived.Test.YtdolgmmldncfkaaGreatDoorPJ04
import Derived.Test.YtdolgmmldncfkaaGreatDoorPJ19
import Derived.Test.YtdolgmmldncfkaaGreatDoorPJ29
open Go.Proofs.Tryz
set_option linter.unusedVariables false
set_option maxRecDepth 20000
set_option maxHeartbeats 6400000
namespace Go.Proofs.YtdolgmmldncfkaaGreatDoor.GZp
open Go.RowKit KBase KVp
def zs:List Co->List Int
 | []=>[]
 | .mk k t f p x l u :: cs=>((1+szL l+szL u:Nat):Int) :: (zs l ++ zs u ++ zs cs)
theorem zs_nil:zs []=[]:=by rw[zs]
def n1 (c:Co):Nat:=1+szL c.l+szL c.u
theorem zs_cons (c:Co) (t:List Co):zs (c :: t)=(n1 c:Int) :: (zs c.l ++ zs c.u ++ zs t):=by
 obtain⟨k,tg,f,p,x,l,u⟩:=c;rw[zs];rfl
theorem szL_app (a b:List Co):szL (a ++ b)=szL a+szL b:=by
 induction a with
 | nil=>rw[List.nil_append,szL_nil];omega
 | cons c t ih=>rw[List.cons_append,szL_cons,szL_cons,ih];omega
theorem zs_app (a b:List Co):zs (a ++ b)=zs a ++ zs b:=by
 induction a with
 | nil=>rw[List.nil_append,zs_nil];rfl
 | cons c t ih=>rw[List.cons_append,zs_cons,zs_cons,ih];simp
theorem zs_len_le:∀ (m:Nat) (cs:List Co),SizeOf.sizeOf cs<=m->(zs cs).length=szL cs:=by
 intro m;induction m with
 | zero=>
  intro cs h;cases cs with
  | nil=>rw[zs_nil,szL_nil];rfl
  | cons c t=>exact absurd h (by simp)
 | succ m ih=>
  intro cs h;cases cs with
  | nil=>rw[zs_nil,szL_nil];rfl
  | cons c t=>
   rw[zs_cons,szL_cons];obtain⟨k,tg,f,p,x,l,u⟩:=c;have e1:(Co.mk k tg f p x l u).l=l:=rfl;have e2:(Co.mk k tg f p x l u).u=u:=rfl;have i1:=ih l (by simp at h;omega);have i2:=ih u (by simp at h;omega);have i3:=ih t (by simp at h;omega);rw[e1,e2];simp only [List.length_cons, List.length_append];omega
theorem zs_len (cs:List Co):(zs cs).length=szL cs:=zs_len_le _ cs (Nat.le_refl _)
theorem zs_take {cs:List Co} {q:Nat} (h:q<cs.length):zs (cs.take (q+1))=zs (cs.take q) ++ (n1 cs[q] : Int) :: (zs cs[q].l ++ zs cs[q].u):=by
 rw[List.take_add_one,List.getElem?_eq_getElem h,Option.toList_some,zs_app,zs_cons,zs_nil];simp
theorem sz_take {cs:List Co} {q:Nat} (h:q<cs.length):szL (cs.take (q+1))=szL (cs.take q)+n1 cs[q]:=by
 rw[List.take_add_one,List.getElem?_eq_getElem h,Option.toList_some,szL_app,szL_cons,szL_nil];unfold n1;omega
theorem sz_take_le (cs:List Co) (q:Nat):szL (cs.take q)<=szL cs:=by
 have:=szL_app (cs.take q) (cs.drop q);rw[List.take_append_drop] at this;omega
def Ats (Z:List Int) (n:Nat) (cs:List Co):Prop:=∃ P S,Z=P ++ (zs cs ++ S)/\P.length=n
theorem Ats.get {Z:List Int} {n:Nat} {cs:List Co} (h:Ats Z n cs) {q:Nat} (hq:q<cs.length):∃ hz:n+szL (cs.take q)<Z.length,Z[n+szL (cs.take q)]=(n1 cs[q] : Int):=by
 obtain⟨P,S,rfl,rfl⟩:=h;have e:zs cs=zs (cs.take q) ++ ((n1 cs[q] : Int) :: (zs cs[q].l ++ zs cs[q].u) ++ zs (cs.drop (q+1))):=by
  have:=zs_app (cs.take (q+1)) (cs.drop (q+1));rw[List.take_append_drop,zs_take hq] at this;rw[this,List.append_assoc]
 have e2:P ++ (zs cs ++ S)=(P ++ zs (cs.take q)) ++ ((n1 cs[q] : Int) :: ((zs cs[q].l ++ zs cs[q].u) ++ zs (cs.drop (q+1)) ++ S)):=by
  rw[e];simp
 have hl:(P ++ zs (cs.take q)).length=P.length+szL (cs.take q):=by rw[List.length_append,zs_len]
 have hlt:P.length+szL (cs.take q)<(P ++ (zs cs ++ S)).length:=by
  rw[e2,List.length_append,hl];simp
 refine⟨hlt,?_⟩;have h2:(P ++ (zs cs ++ S))[P.length+szL (cs.take q)]? = some (n1 cs[q] : Int):=by
  rw[e2,List.getElem?_append_right (by rw[hl];exact Nat.le_refl _),hl,Nat.sub_self];rfl
 rw[List.getElem?_eq_getElem hlt] at h2;exact Option.some.inj h2
theorem Ats.kids {Z:List Int} {n:Nat} {cs:List Co} (h:Ats Z n cs) {q:Nat} (hq:q<cs.length):Ats Z (n+szL (cs.take q)+1) cs[q].l/\Ats Z (n+szL (cs.take q)+1+szL cs[q].l) cs[q].u:=by
 obtain⟨P,S,rfl,rfl⟩:=h;have e:zs cs=zs (cs.take q) ++ ((n1 cs[q] : Int) :: (zs cs[q].l ++ zs cs[q].u) ++ zs (cs.drop (q+1))):=by
  have:=zs_app (cs.take (q+1)) (cs.drop (q+1));rw[List.take_append_drop,zs_take hq] at this;rw[this,List.append_assoc]
 refine⟨⟨P ++ zs (cs.take q) ++ [(n1 cs[q] : Int)],zs cs[q].u ++ zs (cs.drop (q+1)) ++ S,?_,?_⟩,⟨P ++ zs (cs.take q) ++ [(n1 cs[q] : Int)] ++ zs cs[q].l,zs (cs.drop (q+1)) ++ S,?_,?_⟩⟩
 ·rw[e];simp
 ·simp only [List.length_append, zs_len, List.length_singleton]
 ·rw[e];simp
 ·simp only [List.length_append, zs_len, List.length_singleton]
theorem Ats.len {Z:List Int} {n:Nat} {cs:List Co} (h:Ats Z n cs):n+szL cs<=Z.length:=by
 obtain⟨P,S,rfl,rfl⟩:=h;simp only [List.length_append, zs_len];omega
theorem ats_all (cs:List Co):Ats (zs cs) 0 cs:=⟨[],[],by simp,rfl⟩
end Go.Proofs.YtdolgmmldncfkaaGreatDoor.GZp
namespace Go.Proofs.YtdolgmmldncfkaaGreatDoor.IBase
open Go.RowKit
theorem add_none (g o j:Nat):(⟨g,o,none⟩ : Addr).add j=⟨g,o+j,none⟩:=by
 unfold Addr.add;split
 ·simp_all
 ·rfl
theorem heap_alloc_new (w:World) (o:Obj):(w.alloc o).heap[w.heap.size]? = some o:=by
 show (w.heap.push o)[w.heap.size]? = _;simp
theorem infoI:(prog.info? 3).map (fun i=>(i.zero,i.size,i.bytes))=some (some (.int .i64 0),1,8):=by kernel_rfl
def Oi (w:World) (B:Nat) (v:Value) (L:List Int):Prop:=w.ownsRow B 3 1 v L.length (L.map (Value.int .i64))
theorem Oi.shape {w:World} {B:Nat} {v:Value} {L:List Int} (h:Oi w B v L):∃ a cap,v=.slice a L.length cap:=by
 rcases h.2 with ⟨rfl,e⟩|⟨g,cap,cur,rfl,-⟩
 ·exact⟨none,0,by rw[e]⟩
 ·exact⟨_,_,rfl⟩
theorem Oi.below {w w':World} {B:Nat} {v:Value} {L:List Int} (h:Oi w B v L) (hb:Below w.heap.size w w'):Oi w' B v L:=by
 refine⟨h.1,?_⟩;rcases h.2 with h2|⟨g,cap,cur,h1,h2,h3,h4⟩
 ·exact .inl h2
 ·exact .inr ⟨g,cap,cur,h1,h2,(hb.block g (Array.getElem?_eq_some_iff.1 h3).1).trans h3,h4⟩
theorem Oi.set {w:World} {B g n cap:Nat} {L:List Int} (h:Oi w B (.slice (some ⟨g,0,none⟩) n cap) L) (k:Nat) (x:Int) :
  Oi (w.setCell ⟨g,k,none⟩ (.int .i64 x)) B (.slice (some ⟨g,0,none⟩) n cap) (L.set k x)/\w.grownBy (w.setCell ⟨g,k,none⟩ (.int .i64 x)) (some g):=by
 obtain⟨a,c,e⟩:=h.shape;cases e;obtain⟨h1,h2⟩:=World.ownsRow.stored h k (.int .i64 x);refine⟨?_,h2⟩;unfold Oi;rw[List.length_set,List.map_set];exact h1
theorem Oi.at {w:World} {B g n cap:Nat} {L:List Int} (h:Oi w B (.slice (some ⟨g,0,none⟩) n cap) L) {k:Nat} (hk:k<L.length):w.cell? ⟨g,0+k,none⟩=some (.int .i64 L[k])/\w.frozen? ⟨g,0+k,none⟩=false:=by
 obtain⟨a,c,e⟩:=h.shape;cases e;have:=World.ownsRow.cells (g:=g) h rfl k (.int .i64 L[k]) (by simp [hk]);rw[add_none] at this;exact⟨this,World.ownsRow.frozenAt h _⟩
theorem Oi.pos {w:World} {B:Nat} {v:Value} {L:List Int} (h:Oi w B v L) (hl:0<L.length):∃ g cap,v=.slice (some ⟨g,0,none⟩) L.length cap/\L.length<=cap/\cap<=9223372036854775807:=by
 rcases h.2 with ⟨rfl,e⟩|⟨g,cap,cur,rfl,h1,h2,h3,h4,-⟩
 ·omega
 ·exact⟨g,cap,rfl,h3,h4⟩
theorem new_cells (w:World) (cs:List Value) (t:TypeId):∀ j u,cs[j]? = some u->(w.alloc (.cells cs.toArray t)).cell? ((⟨w.heap.size,0,none⟩ : Addr).add j)=some u:=by
 intro j u hu;rw[add_none,Nat.zero_add];have h:=heap_alloc_new w (.cells cs.toArray t);have e:(w.alloc (.cells cs.toArray t)).cell? ⟨w.heap.size,j,none⟩=cs.toArray[j]?:=by
  unfold World.cell?;rw[h];rfl
 rw[e];simpa using hu
theorem oi_nil (w:World) (B:Nat):Oi w B (.slice none 0 0) []:=World.ownsRow_nil _ _ _ _
end Go.Proofs.YtdolgmmldncfkaaGreatDoor.IBase
namespace Go.Proofs.YtdolgmmldncfkaaGreatDoor.GSz
open Tak
open Go.RowKit Base KBase KVp GZp
open IBase (Oi)
theorem seven_b {w:World} {B:Nat} {v0 v1 v2 v3 v4 v5 v6:Value} {t:TypeId} (h:w.heap[B]? = some (.cells #[v0,v1,v2,v3,v4,v5,v6] t (0,0))) :
  w.cell? ⟨B,0,none⟩=some v0/\w.cell? ⟨B,1,none⟩=some v1/\w.cell? ⟨B,2,none⟩=some v2/\w.cell? ⟨B,3,none⟩=some v3/\w.cell? ⟨B,4,none⟩=some v4/\w.cell? ⟨B,5,none⟩=some v5/\w.cell? ⟨B,6,none⟩=some v6:=by
 refine⟨?_,?_,?_,?_,?_,?_,?_⟩ <;> simp [World.cell?, h]
section
variable {ops:Array Oper} {o:Oper} {y:Act} {K:Act->World->Prop} {Q:Exit->Act->World->Prop} {E:Prop} {w:World} {base n m c:Nat} {v:Value} {xs news:List Value} {ad:Addr}
theorem wp_int (x z:Operand) (ho:o.op=.call { callee:=.builtin .append,args:=#[x,z],argTypes:=#[79,79] }) (hown:w.ownsRow base 3 1 v n xs) (hl:news.length=m*1) (hnews:∀ j u,news[j]? = some u->w.cell? (ad.add j)=some u) (h1:∀ u ∈ news,u.oneCell'=true) (hb:n+m<=100000) (hbase:base<=w.heap.size)
  (hx:y.eval x=v) (hz:y.eval z=.slice (some ad) m c) (hk:∀ v' W,W.ownsRow base 3 1 v' (n+m) (xs ++ news)->w.grownBy W v.ownBlock->(v'.ownBlock=v.ownBlock\/v'.ownBlock=some w.heap.size)->K (y.put o.dst v') W):o.wp prog y w K Q:=by
 obtain⟨ij,hij,hj0,hj1,hj2⟩:=XLend.info_parts IBase.infoI;obtain⟨v',W,hrun,h3,h4,-,h5⟩:=run_append_own_at (P:=prog) w base 79 o.type 3 ij _ 1 8 underlying79 hij hj0 hj1 hj2 rfl (by decide) v n xs hown ad m c news hl hnews h1 (by unfold maxLen;omega) (by omega) hbase;unfold Oper.wp execOp;simp only [ho, resolve, invoke, builtin, Sem.run_bind, Sem.run_pure, Result.andThen_ok, List.map_toArray, List.map_cons, List.map_nil, hx, hz, hrun];exact hk v' W h3 h4 h5
theorem step_int (hgd:o.guard=none) (x z:Operand) (ho:o.op=.call { callee:=.builtin .append,args:=#[x,z],argTypes:=#[79,79] }) (hown:w.ownsRow base 3 1 v n xs) (hl:news.length=m*1) (hnews:∀ j u,news[j]? = some u->w.cell? (ad.add j)=some u) (h1:∀ u ∈ news,u.oneCell'=true) (hb:n+m<=100000) (hbase:base<=w.heap.size)
  (hx:y.eval x=v) (hz:y.eval z=.slice (some ad) m c) (hk:∀ v' W,W.ownsRow base 3 1 v' (n+m) (xs ++ news)->w.grownBy W v.ownBlock->(v'.ownBlock=v.ownBlock\/v'.ownBlock=some w.heap.size)->K (y.put o.dst v') W):if Region.wanted o (yielded ops y.tmps)=true then Oper.wp prog o y w K Q else E:=by
 have hw:Region.wanted o (yielded ops y.tmps)=true:=by simp [Region.wanted, hgd]
 rw[if_pos hw];exact wp_int x z ho hown hl hnews h1 hb hbase hx hz hk
end
structure Ko (lo:Nat) (o:Option Nat) (w w':World):Prop where
 below:Below lo w w'
 size:w.heap.size<=w'.heap.size
 other:∀ k,some k≠o->k<w.heap.size->w'.heap[k]? = w.heap[k]?
def Fresh (w:World) (v u:Value):Prop:=u.ownBlock=v.ownBlock \/ ∃ b,u.ownBlock=some b/\w.heap.size<=b
theorem Ko.trans {lo:Nat} {w w1 w2:World} {v u:Value} (h:Ko lo v.ownBlock w w1) (hf:Fresh w v u) (k:Ko lo u.ownBlock w1 w2):Ko lo v.ownBlock w w2:=
 ⟨h.below.trans k.below,Nat.le_trans h.size k.size,fun b hne hl=>(k.other b (fun e=>by
  rcases hf with hf|⟨x,hf,hx⟩
  ·exact hne (e.trans hf)
  ·rw[hf] at e
   have:=Option.some.inj e;omega) (Nat.lt_of_lt_of_le hl h.size)).trans (h.other b hne hl)⟩
theorem Fresh.trans {w w1:World} {v u x:Value} (h:Fresh w v u) (hs:w.heap.size<=w1.heap.size) (h2:Fresh w1 u x):Fresh w v x:=by
 rcases h2 with h2|⟨b,h2,hb⟩
 ·rcases h with h|⟨b,h,hb⟩
  ·exact .inl (h2.trans h)
  ·exact .inr ⟨b,h2.trans h,hb⟩
 ·exact .inr ⟨b,h2,by omega⟩
def SZ (m:Nat):Prop:=∀ (w:World) (v av:Value) (cs:List Co) (A:List Int) (K lo:Nat),K<=lo->lo<=w.heap.size->InL false (fun b=>b<K) w m v cs->Oi w lo av A->A.length+szL cs<=60000 ->
  Calls prog 34 #[av,v] w fun e w'=>∃ av',e=.returned av'/\Oi w' lo av' (A ++ zs cs)/\Ko lo av.ownBlock w w'/\Fresh w av av'
theorem oi_cap {w:World} {B:Nat} {v:Value} {L:List Int} (h:Oi w B v L):∃ a cap,v=.slice a L.length cap/\L.length<=cap/\cap<=9223372036854775807:=by
 rcases h.2 with ⟨rfl,e⟩|⟨g,cap,cur,rfl,-,-,h3,h4,-⟩
 ·exact⟨none,0,by rw[e],by omega,by omega⟩
 ·exact⟨_,_,rfl,h3,by unfold maxLen at h4;omega⟩
theorem oi_lt {w:World} {B:Nat} {v:Value} {L:List Int} (h:Oi w B v L) {g:Nat} (hg:v.ownBlock=some g):B<=g/\g<w.heap.size:=World.ownsRow.lt h g hg
theorem oi_same {w w':World} {B:Nat} {v:Value} {L:List Int} (h:Oi w B v L) (hs:∀ g,v.ownBlock=some g->w'.heap[g]? = w.heap[g]?):Oi w' B v L:=by
 refine⟨h.1,?_⟩;rcases h.2 with h2|⟨g,cap,cur,h1,h2,h3,h4⟩
 ·exact .inl h2
 ·exact .inr ⟨g,cap,cur,h1,h2,(hs g (by rw[h1];rfl)).trans h3,h4⟩
theorem sizes_of {m:Nat} (ih:∀ m',m=m'+1->SZ m'):SZ m:=by
 intro w v av cs A K lo hKl hlo hin hO hn;have Hih:=hid ih;have HO:=hid hO;have HF:=hid hin
 obtain⟨ca,ccap,rfl,hlc,hcm,hlen,-,-⟩:=hin
 obtain⟨a0,cap0,rfl,hc1,hc2⟩:=oi_cap hO;clear ih hO;go_enter func34,ntmps34;go_wp2_with fail
 go_loopw [0,10] (fun ah i wr=>∃ (q:Nat) (av':Value),i=.int .i64 q/\ah=av'/\q<=cs.length/\Oi wr lo av' (A ++ zs (cs.take q))/\Ko lo (Value.slice a0 A.length cap0).ownBlock w wr/\Fresh w (Value.slice a0 A.length cap0) av') (fun _ i _=>cs.length - (intOf i).toNat)
 case atStart=>exact⟨0,_,rfl,rfl,by omega,by rw[List.take_zero,zs_nil,List.append_nil];exact HO.out,⟨Below.refl _ _,Nat.le_refl _,fun _ _ _=>rfl⟩,.inl rfl⟩
 case round=>
  obtain⟨q,av',rfl,rfl,hq,hOr,hKr,hFr⟩:=hrel;obtain⟨P,hP⟩ : ∃ P,A ++ zs (cs.take q)=P:=⟨_,rfl⟩;rw[hP] at hOr;have HP:=hid hP;have hlq:P.length=A.length+szL (cs.take q):=by rw[<- hP,List.length_append,zs_len]
  have HLQ:=hid hlq;have hlb:P.length<=60000:=by have:=sz_take_le cs q;omega
  have HOr:=hid hOr;clear hP;have HKr:=hid hKr;have HFr:=hid hFr;have hsr:=hKr.size;obtain⟨a,cap,rfl,hd1,hd2⟩:=oi_cap hOr;by_cases hlt:q<cs.length
  ·have d0:decide ((q:Int)<(cs.length:Int))=true:=by simp;omega
   have i0:(0:Int)<=(q:Int):=by omega
   have i1:(q:Int)<(cs.length:Int):=by omega
   obtain⟨aa,cc,hsl,-,-,-,-,hLA⟩:=HF.out;cases hsl;obtain⟨g,o,u,rfl,hgK,hu,hi⟩:=hLA.elem hlt;obtain⟨mc',fv,pv,xv,lv,uv,hmc,rfl,-,-,hF1,hP1,hX1,hL1,hU1⟩:=hi.shape;have HLk:=hid hL1;have HUk:=hid hU1;obtain⟨fa,fcp,rfl,-⟩:=hF1;obtain⟨pa,pcp,rfl,-⟩:=hP1;obtain⟨mx,xa,xcp,rfl,-⟩:=hX1;obtain⟨la,lcp,rfl,-⟩:=hL1;obtain⟨ua,ucp,rfl,-⟩:=hU1;obtain⟨v0,v1,v2,v3,v4,v5,v6,he,c0,c1,c2,c3,c4,c5,c6⟩:=hu;simp only [Value.agg.injEq, Array.mk.injEq, List.cons.injEq, and_true] at he;obtain⟨rfl,rfl,rfl,rfl,rfl,rfl,rfl⟩:=he;have bK:=hKr.below.mono hKl;have c0:=(World.cell?_of_block (w:=w) (bK.block g hgK)).trans c0;have c1:=(World.cell?_of_block (w:=w) (bK.block g hgK)).trans c1;have c2:=(World.cell?_of_block (w:=w) (bK.block g hgK)).trans c2;have c3:=(World.cell?_of_block (w:=w) (bK.block g hgK)).trans c3;have c4:=(World.cell?_of_block (w:=w) (bK.block g hgK)).trans c4;have c5:=(World.cell?_of_block (w:=w) (bK.block g hgK)).trans c5
   have c6:=(World.cell?_of_block (w:=w) (bK.block g hgK)).trans c6;obtain⟨W1,hW1⟩ : ∃ W1,wr.alloc (.cells #[.int .i64 cs[q].k,.string cs[q].t,.slice fa cs[q].f.length fcp,.slice pa cs[q].p.length pcp,.slice xa cs[q].x.length xcp,.slice la cs[q].l.length lcp,.slice ua cs[q].u.length ucp] 42)=W1:=⟨_,rfl⟩;have b1:=alB hW1;have hs1:W1.heap.size=wr.heap.size+1:=by rw[<- hW1];simp
   have hx1:=alG hW1;obtain⟨-,-,-,-,-,z5,z6⟩:=seven_b hx1;obtain⟨W2,hW2⟩ : ∃ W2,W1.drew.alloc (.cells #[.int .i64 0] 3)=W2:=⟨_,rfl⟩;have b2:Below W1.heap.size W1 W2:=by rw[<- hW2];exact ((Below.refl _ W1).drew).alloc (by simp) _
   have hs2:W2.heap.size=wr.heap.size+2:=by rw[<- hW2];simp;omega
   have HX2:=hid ((b2.block wr.heap.size (by omega)).trans hx1);obtain⟨-,-,-,-,-,y5,y6⟩:=seven_b HX2.out;have HB2:=hid (b1.trans (b2.mono (by omega)));have HO2:=hid (Oi.below hOr HB2.out);have HN2:Hid (∀ j u,([.int .i64 0] : List Value)[j]? = some u->W2.cell? ((⟨wr.heap.size+1,0,none⟩ : Addr).add j)=some u):=by
    rw[<- hW2];have:=IBase.new_cells W1.drew [.int .i64 0] 3;simp only [World.size_drew, hs1] at this;exact this
   have hz2:∀ u ∈ ([.int .i64 0] : List Value),u.oneCell'=true:=by simp [Value.oneCell']
   have HZ2:=hid hz2;have hszq:=sz_take hlt;have hszl:=sz_take_le cs (q+1);unfold n1 at hszq;have HW1:=hid hW1;clear hLA hi hOr hKr hFr bK b1 hx1 b2 hW1 hz2 hlq;go_wp2_with fail
   try rw[HW1.out]
   refine wp_region_held_drew (S:=fun w'=>w'.cell? ⟨wr.heap.size,5,none⟩=some (.slice la cs[q].l.length lcp)/\w'.cell? ⟨wr.heap.size,6,none⟩=some (.slice ua cs[q].u.length ucp)) (by kernel_rfl) (by exact⟨z5,z6⟩) (fun hHeld=>?_);refine tkH 0 rfl ?_;try simp only [ptH]
   refine tkH 3 rfl ?_;try simp only [ptH]
   refine tkH 4 rfl ?_;try simp only [ptH]
   refine tkH 6 rfl ?_;try simp only [ptH]
   refine tkH 7 rfl ?_;try simp only [ptH]
   refine rdH [1] ?_;refine alH rfl fun K0 hK=>?_
   go_simp
   try rw[hW2]
   refine hK.out _ _ (by exact⟨y5,y6⟩) (fun hHeld=>?_);clear hK K0;try simp only [ptH]
   refine rdH [2] ?_;refine alH rfl fun K0 hK=>?_
   refine step_int (base:=lo) (news:=[.int .i64 0]) (m:=1) (n:=P.length) rfl _ _ rfl HO2.out rfl HN2.out HZ2.out (by omega) (by omega) rfl rfl (fun v3 W3 h3 h4 h5=>?_);have o3:Oi W3 lo v3 (P ++ [0]):=by
    unfold IBase.Oi;rw[List.length_append,List.map_append];exact h3
   have hs3:=h4.size;have oth3:∀ b,b<W2.heap.size->some b≠(Value.slice a P.length cap).ownBlock->W3.heap[b]? = W2.heap[b]?:=fun b hb hn=>h4.block b hb hn
   have K3:Ko lo (Value.slice a P.length cap).ownBlock wr W3:=⟨((HB2.out).mono (by omega)).grown h4 (by omega) (fun k hk=>(oi_lt HOr.out hk).1),by omega,fun b hn hb=>(oth3 b (by omega) hn).trans (HB2.out.block b hb)⟩;have F3:Fresh wr (Value.slice a P.length cap) v3:=by
    rcases h5 with h5|h5
    ·exact .inl h5
    ·exact .inr ⟨_,h5,by omega⟩
   have hne3:some wr.heap.size≠(Value.slice a P.length cap).ownBlock:=fun e=>by have:=(oi_lt HOr.out e.symm).2;omega
   have X3:=(oth3 wr.heap.size (by omega) hne3).trans HX2.out;obtain⟨-,-,-,-,-,u5,u6⟩:=seven_b X3;have HF3:=hid F3;have HK3:=hid K3;have HO3:=hid o3;have HX3:=hid X3;have hv3:v3.ownBlock≠some wr.heap.size:=by
    rcases h5 with h5|h5
    ·rw[h5];exact fun e=>hne3 e.symm
    ·rw[h5];intro e;have:=Option.some.inj e;omega
   clear h3 h4 h5 o3 oth3 K3 F3 X3;refine hK.out _ _ (by exact⟨u5,u6⟩) (fun hHeld=>?_);clear hK K0;try simp only [ptH]
   refine rdH [5] ?_;refine alH rfl fun K0 hK=>?_
   go_simp
   refine (Hih.out _ hmc W3 (.slice la cs[q].l.length lcp) v3 cs[q].l (P ++ [0]) K lo hKl (by omega) (InL.keep (fun b hb _=>(HKr.out.below.trans HK3.out.below).block b (by omega)) HLk.out) HO3.out (by simp only [List.length_append, List.length_singleton];have:=HLQ.out;omega)).mono ?_;rintro ee W4 ⟨v4,rfl,o4,k4,f4⟩;have hs4:=k4.size;have X4:=(k4.other wr.heap.size (fun e=>hv3 e.symm) (by omega)).trans HX3.out;obtain⟨-,-,-,-,-,t5,t6⟩:=seven_b X4;have HX4:=hid X4;have hv4:v4.ownBlock≠some wr.heap.size:=by
    rcases f4 with f4|⟨b,f4,hb⟩
    ·rw[f4];exact hv3
    ·rw[f4];intro e;have:=Option.some.inj e;omega
   have HO4:=hid o4;have HK4:=hid (HK3.out.trans HF3.out k4);have HF4:=hid (Fresh.trans HF3.out (by omega) f4);clear o4 k4 f4 X4;refine hK.out _ _ (by exact⟨t5,t6⟩) (fun hHeld=>?_);clear hK K0;try simp only [ptH]
   refine rdH [8] ?_;refine alH rfl fun K0 hK=>?_
   go_simp
   refine (Hih.out _ hmc W4 (.slice ua cs[q].u.length ucp) v4 cs[q].u (P ++ [0] ++ zs cs[q].l) K lo hKl (by omega) (InL.keep (fun b hb _=>(HKr.out.below.trans HK4.out.below).block b (by omega)) HUk.out) HO4.out (by simp only [List.length_append, List.length_singleton, zs_len];have:=HLQ.out;omega)).mono ?_;rintro ee W5 ⟨v5,rfl,o5,k5,f5⟩;have hs5:=k5.size;have HK5:=hid (HK4.out.trans HF4.out k5);have HF5:=hid (Fresh.trans HF4.out (by omega) f5);have X5:=(k5.other wr.heap.size (fun e=>hv4 e.symm) (by omega)).trans HX4.out;obtain⟨-,-,-,-,-,r5,r6⟩:=seven_b X5;obtain⟨Q5,hQ5⟩ : ∃ Q5,P ++ [0] ++ zs cs[q].l ++ zs cs[q].u=Q5:=⟨_,rfl⟩;rw[hQ5] at o5;have hq5:Q5.length=P.length+n1 cs[q]:=by
    rw[<- hQ5];simp only [List.length_append, List.length_singleton, zs_len];unfold n1;omega
   have HQ5:=hid hQ5;have hn1:1<=n1 cs[q]/\n1 cs[q]<=60000:=by unfold n1;omega
   obtain⟨g5,cap5,rfl,hc51,hc52⟩:=Oi.pos o5 (by omega);have a5:=Oi.at o5 (k:=P.length) (by omega);simp only [Nat.zero_add] at a5;obtain⟨a50',a51⟩:=a5;obtain⟨z50,a50⟩ : ∃ z,W5.cell? ⟨g5,P.length,none⟩=some (.int .i64 z):=⟨_,a50'⟩;clear a50';have HO5:=hid o5;have hwp:IntKind.i64.wrap ((Q5.length:Int) - (P.length:Int))=(n1 cs[q] : Int):=by rw[IntKind.wrap_i64];omega
   have j0:(0:Int)<=(P.length:Int):=by omega
   have j1:(P.length:Int)<(Q5.length:Int):=by omega
   have HQL:=hid hq5;obtain⟨W6,hW6⟩ : ∃ W6,W5.setCell ⟨g5,P.length,none⟩ (.int .i64 (n1 cs[q] : Int))=W6:=⟨_,rfl⟩;have HW6:=hid hW6;have HE:Hid (Oi W6 lo (.slice (some ⟨g5,0,none⟩) Q5.length cap5) (A ++ zs (cs.take (q+1)))/\Ko lo (Value.slice a0 A.length cap0).ownBlock w W6/\Fresh w (Value.slice a0 A.length cap0) (.slice (some ⟨g5,0,none⟩) Q5.length cap5)):=by
    obtain⟨r1,r2⟩:=Oi.set HO5.out P.length (n1 cs[q] : Int);rw[HW6.out] at r1 r2;have e1:Q5.set P.length (n1 cs[q] : Int)=A ++ zs (cs.take (q+1)):=by
     rw[<- HQ5.out,zs_take hlt,<- List.append_assoc,HP.out];simp []
    rw[e1] at r1;have hg5:=oi_lt HO5.out (g:=g5) rfl;have kk:Ko lo (Value.slice (some ⟨g5,0,none⟩) Q5.length cap5).ownBlock W5 W6:=⟨by rw[<- HW6.out];exact (Below.refl _ _).setCell (by simpa using hg5.1) _,by rw[<- HW6.out,World.size_setCell];exact Nat.le_refl _,fun b hb _=>by rw[<- HW6.out,Below.heap_setCell _ _ _ _ (fun e=>hb (by rw[e];rfl))]⟩;exact⟨r1,Ko.trans HKr.out HFr.out (Ko.trans HK5.out HF5.out kk),Fresh.trans HFr.out (by omega) HF5.out⟩
   clear k5 f5 o5 hQ5 hq5 X5 hW6;refine hK.out _ _ (by exact⟨r5,r6⟩) (fun hHeld=>?_);clear hK K0;try simp only [ptH]
   refine tkH 9 rfl ?_;try simp only [ptH]
   refine dnH ?_;go_wp2_with fail
   try go_region
   try go_wp2_with fail
   try rw[HW6.out]
   go_roundw
   case rel=>
    obtain⟨e1,e2,e3⟩:=HE.out;exact⟨q+1,_,by go_num,rfl,by omega,e1,e2,e3⟩
   case measure=>simp only [intOf];omega
  ·obtain rfl:q=cs.length:=by omega
   have hnlt:decide ((cs.length:Int)<(cs.length:Int))=false:=by simp
   have HE:Hid (A ++ zs cs=P):=by have:=HP.out;rw[List.take_length] at this;exact this
   clear hOr hKr hFr;go_wp2_with fail
   go_ret
   exact⟨_,rfl,by rw[HE.out];exact HOr.out,HKr.out,HFr.out⟩
theorem sizes_c:∀ m,SZ m
 | 0=>sizes_of fun m' h=>absurd h (by omega)
 | m+1=>sizes_of fun m' h=>by
  obtain rfl:m=m':=by omega
  exact sizes_c m
end Go.Proofs.YtdolgmmldncfkaaGreatDoor.GSz
namespace Go.Proofs.YtdolgmmldncfkaaGreatDoor.GZp
open KBase KNd KVp
theorem sz_okL {cs:List Co} (h:chk cs=0):lbL 0 cs=true/\(szL cs:Int)<=4096:=by
 have:=ok_small _ cs 4096 1 0 0 (Nat.le_refl _) h (by omega);have r:=ndL_room _ cs 4096 1 0 0 (Nat.le_refl _) h (by omega);exact⟨this.1,by omega⟩
theorem sz_ok {cs:List Co} (h:KNd.chk cs=0):szL cs<=4096:=by
 have:=(sz_okL h).2;omega
end Go.Proofs.YtdolgmmldncfkaaGreatDoor.GZp
namespace Go.Proofs.YtdolgmmldncfkaaGreatDoor.Shallow
open Go.RowKit Base
def depL:List C->Nat
 | []=>0
 | .mk _ _ _ _ _ l :: cs=>max (depL l+1) (depL cs)
def dep:C->Nat
 | .mk _ _ _ _ _ l=>depL l+1
theorem depL_cons (c:C) (cs:List C):depL (c :: cs)=max (dep c) (depL cs):=by
 obtain⟨k,b,i,s,n,l⟩:=c;rw[depL,dep]
theorem depL_le {l:List C} {q:Nat}:depL l<=q ↔ ∀ j (h:j<l.length),dep l[j]<=q:=by
 induction l with
 | nil=>simp [depL]
 | cons c cs ih=>
  rw[depL_cons,Nat.max_le,ih];constructor
  ·rintro⟨h1,h2⟩ j hj
   cases j with
   | zero=>exact h1
   | succ j=>exact h2 j (by simpa using hj)
  ·intro h
   exact⟨h 0 (by simp),fun j hj=>h (j+1) (by simpa using hj)⟩
theorem value_c:∀ (m:Nat) (v:Value) (c:C) (left:Nat) (w:World),left<=4096->In false All w m v c ->
  Calls prog 29 #[v,.int .i64 left] w fun r w'=>r=.returned (.bool (decide (dep c<=left)))/\Below w.heap.size w w':=by
 intro m;induction m with
 | zero=>intro v c left w _ h;rw[In] at h;exact h.elim
 | succ m ih=>
  intro v c left w hle h;obtain⟨k,b,i,s,n,l⟩:=c;rw[in_iff] at h;obtain⟨nv,lv,rfl,hk,hi,hs,hn,hL0⟩:=h;obtain⟨a,cap,rfl,hl,hcap,hlen,ha,hL⟩:=hL0.out;clear hL0;have ih':=Hid.out ih;have H:Hid (∀ (v:Value) (c:C) (left:Nat) (w:World),left<=4096->In false All w m v c ->
   Calls prog 29 #[v,.int .i64 left] w fun r w'=>r=.returned (.bool (decide (dep c<=left)))/\Below w.heap.size w w'):=ih
  clear ih ih';by_cases h0:left=0
  ·subst h0
   have hd:decide (dep (.mk k b i s n l)<=0)=false:=by simp [dep]
   rw[hd];clear hd;go_enter func29,ntmps29;go_wp2_with fail
   go_ret
   exact⟨rfl,(Below.refl _ _).alloc (Nat.le_refl _) _⟩
  ·have h0':((left:Int) == 0)=false:=by simp;omega
   have hd:decide (dep (.mk k b i s n l)<=left)=decide (depL l<=left - 1):=by simp only [dep];congr 1;exact propext ⟨fun _=>by omega,fun _=>by omega⟩
   rw[hd];clear hd;go_enter func29,ntmps29;go_wp2_with fail
   go_loopw [5] (fun i' wr=>∃ q:Nat,q<=l.length/\i'=.int .i64 q/\(∀ j (h:j<l.length),j<q->dep l[j]<=left - 1) /\
    Below (w.heap.size+1) (w.alloc (.cells #[.int .i64 k,.bool b,.int .i64 i,.string s,nv,.slice a l.length cap] 26)) wr) (fun i' _=>l.length - (intOf i').toNat)
   case atStart=>exact⟨0,by omega,rfl,fun j _ h=>by omega,Below.refl _ _⟩
   case round=>
    obtain⟨q,hq,rfl,hall,hb⟩:=hrel;obtain⟨c0,c1,c2,c3,c4,c5⟩:=six_box (box_at hb);by_cases hlt:q<l.length
    ·obtain⟨g,o,u,rfl,-,hu,hin⟩:=elem_at hL hlt
     have hu:=six_below hu (below_box hb);have hin:=hin.below (below_box hb);obtain⟨v0,v1,v2,v3,v4,v5,rfl,d0,d1,d2,d3,d4,d5⟩:=hu;go_wp2_with fail
     rw[show (left:Int) - 1=((left - 1:Nat):Int) by omega];refine (H.out _ _ (left - 1) _ (by omega) hin).mono ?_;rintro e w2 ⟨rfl,b2⟩;cases hd:decide (dep l[q]<=left - 1) with
     | true=>
      go_wp2_with fail
      go_roundw
      case rel=>
       refine⟨q+1,by omega,by go_num,fun j hj hjq=>?_,nxB hb (by simp) b2⟩;by_cases e:j=q
       ·subst e
        exact of_decide_eq_true hd
       ·exact hall j hj (by omega)
      case measure=>simp only [intOf];omega
     | false=>
      go_wp2_with fail
      go_ret
      refine⟨?_,nx (below_box hb) b2⟩;have h1 : ¬ dep l[q]<=left - 1:=of_decide_eq_false hd;have : ¬ depL l<=left - 1:=fun h=>h1 (depL_le.1 h q hlt)
      simp [this]
    ·have hlt':decide ((q:Int)<(l.length:Int))=false:=by simp;omega
     go_wp2_with fail
     go_ret
     refine⟨?_,below_box hb⟩;have:depL l<=left - 1:=depL_le.2 fun j hj=>hall j hj (by omega)
     simp [this]
theorem shallow_c (m:Nat) (v:Value) (c:C) (w:World) (h:In false All w m v c) :
  Calls prog 16 #[v] w fun r w'=>r=.returned (.bool (decide (dep c<=4096)))/\Below w.heap.size w w':=by
 obtain⟨v0,v1,v2,v3,v4,v5,rfl,-⟩:=h.six;have hb:Below w.heap.size w (w.alloc (.cells #[v0,v1,v2,v3,v4,v5] 26)):=(Below.refl _ w).alloc (Nat.le_refl _) _;have hv:=value_c m _ c 4096 (w.alloc (.cells #[v0,v1,v2,v3,v4,v5] 26)) (by omega) (h.below hb);generalize dep c=d at *
 clear h;go_enter func16,ntmps16;go_wp2_with (first | (go_at_call 29;refine hv.mono ?_;rintro e w2 ⟨rfl,b2⟩))
 go_ret
 exact⟨rfl,nx hb b2⟩
end Go.Proofs.YtdolgmmldncfkaaGreatDoor.Shallow

import Derived.Test.YtdolgmmldncfkaaGreatDoorPJ09
import Derived.Test.YtdolgmmldncfkaaGreatDoorPJ18
import Derived.Test.YtdolgmmldncfkaaGreatDoorPJ36
import Derived.Test.YtdolgmmldncfkaaGreatDoorPJ44
import Derived.Test.YtdolgmmldncfkaaGreatDoorPJ45
import Derived.Test.YtdolgmmldncfkaaGreatDoorPJ48
set_option linter.unusedVariables false
namespace Go.Proofs.YtdolgmmldncfkaaGreatDoor.TSr
open Go.RowKit TBase TPure TSame
theorem sm_refl:∀ (m:Nat) (l:List T),SizeOf.sizeOf l<=m->sm l l=true:=by
 intro m;induction m with
 | zero=>
  intro l hm;cases l with
  | nil=>exact sm_nil
  | cons c cs=>simp at hm
 | succ m ih=>
  intro l hm;cases l with
  | nil=>exact sm_nil
  | cons c cs=>
   obtain⟨g,s,n,l⟩:=c;simp at hm
   rw[sm_cons,ih cs (by omega)];unfold s1;rw[show sm (T.mk g s n l).l (T.mk g s n l).l=true from ih l (by omega)];have hn:∀ n:List (ByteArray × ByteArray),sa n n=true:=by
    intro n;induction n with
    | nil=>rfl
    | cons t n ih=>rw[sa,ih];simp [ea, eqB]
   rw[hn];simp [eqB]
theorem sm_self (l:List T):sm l l=true:=sm_refl _ l (Nat.le_refl _)
end Go.Proofs.YtdolgmmldncfkaaGreatDoor.TSr
namespace Go.Proofs.YtdolgmmldncfkaaGreatDoor.WAr
open Go.RowKit Base KBase GRj
abbrev ns:Value:=.slice none 0 0
abbrev qz:ByteArray:=⟨#[]⟩
theorem rn_nil {α:Type} {n z:Nat} {Ly:World->Nat->Nat->Value->Prop} {rm:Value} {S:Nat->Prop} {w:World} {P:Value->α->Prop}:Rw n z Ly rm false S w P ns []:=⟨none,0,rfl,by simp,by simp,by simp,fun _=>rfl,.inl ⟨rfl,rfl⟩⟩
theorem leaf {w:World} {S:Nat->Prop} {o:Int} (h:0<=o/\o<=100):XBase.In false S w 1 (.agg #[.int .i64 o,.int .i64 0,.string qz,ns]) (bE o):=by
 unfold bE;rw[XBase.in_iff];exact⟨ns,rfl,by omega,by omega,by decide,none,0,rfl,by simp,by simp,by simp,fun _=>rfl,.inl ⟨rfl,rfl⟩⟩
theorem rx_one {w:World} {S:Nat->Prop} {gx:Nat} {o:Int} (hS:S gx) (ho:0<=o/\o<=100) (h:w.heap[gx]? = some (.cells #[.int .i64 o,.int .i64 0,.string qz,ns] 44 (0,0))):RX false S w (.slice (some ⟨gx,0,none⟩) 1 1) [bE o]:=by
 refine⟨1,some ⟨gx,0,none⟩,1,rfl,by simp,by simp,by simp,(fun h=>by cases h),.inr ⟨gx,0,rfl,hS,fun j hj=>?_,fun h=>by cases h⟩⟩;have hj:j<1:=hj;match j,hj with
 | 0,_=>refine⟨_,⟨_,_,_,_,rfl,?_,?_,?_,?_⟩,leaf ho⟩ <;> simp [World.cell?, h]
variable {w:World} {S:Nat->Prop} {m:Nat} {va vb:Value} {a b:List Co}
theorem e_in (ha:InL false S w m va a):In false S w (m+1) (.agg #[.int .i64 2,.string ⟨#[113]⟩,ns,ns,ns,va,ns]) (eQ a):=by
 rw[in_succ];exact⟨_,_,_,_,_,rfl,by simp [eQ, Co.k],by show (⟨#[113]⟩ : ByteArray).size<=_;decide,rn_nil,rn_nil,⟨0,rn_nil⟩,ha,rn_nil⟩
theorem i_in {gx:Nat} {o:Int} (hS:S gx) (ho:0<=o/\o<=100) (h:w.heap[gx]? = some (.cells #[.int .i64 o,.int .i64 0,.string qz,ns] 44 (0,0))) (ha:InL false S w m va a) (hb:InL false S w m vb b) :
  In false S w (m+1) (.agg #[.int .i64 3,.string qz,ns,ns,.slice (some ⟨gx,0,none⟩) 1 1,va,vb]) (iC (bE o) a b):=by
 rw[in_succ];exact⟨_,_,_,_,_,rfl,by simp [iC, Co.k],by show qz.size<=_;decide,rn_nil,rn_nil,rx_one hS ho h,ha,hb⟩
theorem w_in (ha:InL false S w m va a):In false S w (m+1) (.agg #[.int .i64 5,.string qz,ns,ns,ns,va,ns]) (wC a):=by
 rw[in_succ];exact⟨_,_,_,_,_,rfl,by simp [wC, Co.k],by show qz.size<=_;decide,rn_nil,rn_nil,⟨0,rn_nil⟩,ha,rn_nil⟩
abbrev arV (va vb:Value) (g:Nat):Array Value:=#[.int .i64 2,.string ⟨#[113]⟩,ns,ns,ns,va,ns,.int .i64 3,.string qz,ns,ns,.slice (some ⟨g,0,none⟩) 1 1,va,vb,.int .i64 3,.string qz,ns,ns,.slice (some ⟨g+1,0,none⟩) 1 1,vb,va,.int .i64 5,.string qz,ns,ns,ns,va,ns]
def arC (a b:List Co):List Co:=[eQ a,iC (bE 3) a b,iC (bE 2) b a,wC a]
theorem ar_in {g B:Nat} (hB:S B) (hg:S g) (hg1:S (g+1)) (h1:w.heap[g]? = some (.cells #[.int .i64 3,.int .i64 0,.string qz,ns] 44 (0,0))) (h2:w.heap[g+1]? = some (.cells #[.int .i64 2,.int .i64 0,.string qz,ns] 44 (0,0)))
  (h3:w.heap[B]? = some (.cells (arV va vb g) 42 (0,0))) (ha:InL false S w m va a) (hb:InL false S w m vb b):∀ i (h:i<4),InL false S w (m+1) (.slice (some ⟨B,i*7,none⟩) 1 (4 - i)) [(arC a b)[i]]:=by
 intro i hi;have one:∀ (o cap:Nat) (c:Co) (v0 v1 v2 v3 v4 v5 v6:Value),1<=cap/\cap<=4->Co7 w B o (.agg #[v0,v1,v2,v3,v4,v5,v6])->In false S w (m+1) (.agg #[v0,v1,v2,v3,v4,v5,v6]) c->InL false S w (m+1) (.slice (some ⟨B,o,none⟩) 1 cap) [c]:=by
  intro o cap c v0 v1 v2 v3 v4 v5 v6 hc h7 hin
  refine⟨some ⟨B,o,none⟩,cap,rfl,hc.1,by omega,by simp,(fun h=>by cases h),.inr ⟨B,o,rfl,hB,fun j hj=>?_,fun h=>by cases h⟩⟩;have hj:j<1:=hj;match j,hj with
  | 0,_=>exact⟨_,by simpa using h7,hin⟩
 match i,hi with
 | 0,_=>refine one 0 4 _ _ _ _ _ _ _ _ (by omega) ⟨_,_,_,_,_,_,_,rfl,?_,?_,?_,?_,?_,?_,?_⟩ (e_in ha) <;> simp [World.cell?, h3]
 | 1,_=>refine one 7 3 _ _ _ _ _ _ _ _ (by omega) ⟨_,_,_,_,_,_,_,rfl,?_,?_,?_,?_,?_,?_,?_⟩ (i_in hg (by omega) h1 ha hb) <;> simp [World.cell?, h3]
 | 2,_=>refine one 14 2 _ _ _ _ _ _ _ _ (by omega) ⟨_,_,_,_,_,_,_,rfl,?_,?_,?_,?_,?_,?_,?_⟩ (i_in hg1 (by omega) h2 hb ha) <;> simp [World.cell?, h3]
 | 3,_=>refine one 21 1 _ _ _ _ _ _ _ _ (by omega) ⟨_,_,_,_,_,_,_,rfl,?_,?_,?_,?_,?_,?_,?_⟩ (w_in ha) <;> simp [World.cell?, h3]
end Go.Proofs.YtdolgmmldncfkaaGreatDoor.WAr
namespace Go.Proofs.YtdolgmmldncfkaaGreatDoor.WQt
open Go.RowKit Base KBase GRa GAp
open VPure hiding evL
open TBase (T)
open KVp (szL szL_cons szL_nil)
open Go.RowKit Base KBase GRj
open GRj
theorem one_q {W:World} {m B n c:Nat} {a:Option Addr} {F:List T} (hW:W.heap[B]? = some (.cells #[.string ⟨#[113]⟩,.string ⟨#[]⟩,.slice none 0 0,.slice a n c] 47 (0,0))) (h:TBase.InL false TBase.All W m (.slice a n c) F) :
  TBase.InL false TBase.All W (m+1) (.slice (some ⟨B,0,none⟩) 1 1) [T.mk ⟨#[113]⟩ ⟨#[]⟩ [] F]:=by
 have q0:∀ j,j<4->W.cell? ⟨B,j,none⟩=(#[Value.string ⟨#[113]⟩,.string ⟨#[]⟩,.slice none 0 0,.slice a n c])[j]?:=fun j hj=>by simp [World.cell?, hW]
 refine⟨_,1,rfl,by simp,by omega,by simp,by simp,.inr ⟨B,0,rfl,trivial,fun j hj=>?_,fun h=>by cases h⟩⟩;obtain rfl:j=0:=by simp at hj;omega
 refine⟨.agg #[.string ⟨#[113]⟩,.string ⟨#[]⟩,.slice none 0 0,.slice a n c],⟨_,_,_,_,rfl,(q0 0 (by omega)).trans rfl,(q0 1 (by omega)).trans rfl,(q0 2 (by omega)).trans rfl,(q0 3 (by omega)).trans rfl⟩,?_⟩;exact TBase.in_iff.2 ⟨_,_,rfl,by decide,by decide,⟨none,0,rfl,by simp,by omega,by simp,by simp,by simp,.inl ⟨rfl,rfl⟩⟩,h⟩
theorem around {a b:List Co} {c:C} {F G:List T} (ha:rnd a c=.ok F) (hb:rnd b c=.ok G):Ar (eQ a) c [T.mk ⟨#[113]⟩ nl [] F]/\Ar (iC (bE 3) a b) c F/\Ar (iC (bE 2) b a) c F/\Ar (wC a) c F:=
 ⟨ar_eQ ha,ar_iC (.inr rfl) (by simpa using ha) (rnd_parts ha).1 (rnd_parts hb).1,ar_iC (.inl rfl) (by simpa using ha) (rnd_parts hb).1 (rnd_parts ha).1,ar_wC ha⟩
end Go.Proofs.YtdolgmmldncfkaaGreatDoor.WQt
namespace Go.Proofs.YtdolgmmldncfkaaGreatDoor.JEs
open Go.RowKit Base EPure JPure
open VPure hiding evL
open SFit (kd)
def N0 {α:Type} (x:Except Nat α):Prop:=∀ e,x=.error e->(1100<=e/\e<=1107)\/e=1600\/e=1601
theorem ok0 {α:Type} (a:α):N0 (.ok a):=fun e h=>by cases h
theorem er0 {α:Type} {e:Nat} (h:(1100<=e/\e<=1107)\/e=1600\/e=1601):N0 (.error e:Except Nat α):=fun e q=>by injection q with q;rw[<- q];exact h
theorem bnd0 {α β:Type} {x:Except Nat α} {f:α->Except Nat β} (h:N0 x) (hf:∀ a,N0 (f a)):N0 (bnd x f):=by
 cases x with
 | error e=>exact er0 (h _ rfl)
 | ok a=>exact hf a
theorem isT0 (c:C):N0 (isT c):=by unfold isT;split <;> first | exact ok0 _ | exact er0 (by decide)
theorem chk0 (x e:Int):N0 (chkI x e):=by unfold chkI;(repeat' split) <;> first | exact ok0 _ | exact er0 (by decide)
theorem mapI0 {x:Except Nat Int} (h:N0 x):N0 (mapI x):=by
 cases x with
 | error e=>exact er0 (h _ rfl)
 | ok a=>exact ok0 _
theorem mapS0 {x:Except Nat ByteArray} (h:N0 x):N0 (mapS x):=by
 cases x with
 | error e=>exact er0 (h _ rfl)
 | ok a=>exact ok0 _
theorem mapB0 {x:Except Nat Bool} (h:N0 x):N0 (mapB x):=by
 cases x with
 | error e=>exact er0 (h _ rfl)
 | ok a=>exact ok0 _
theorem txt0 (c:C):N0 (txt c):=by unfold txt;split <;> first | exact ok0 _ | exact er0 (by decide)
theorem ord0 (k1 i1:Int) (s1:ByteArray) (k2 i2:Int) (s2:ByteArray):N0 (ord k1 i1 s1 k2 i2 s2):=by unfold ord;(repeat' split) <;> first | exact ok0 _ | exact er0 (by decide)
theorem numb0 (o:Int) (a b:C):N0 (numb o a b):=by
 refine mapI0 ?_;unfold twI;(repeat' split) <;> first | exact chk0 _ _ | exact er0 (by decide)
theorem pr20 (o:Int) (a b:C):N0 (pr2 o a b):=by
 unfold pr2;by_cases q:o=17
 ·rw[if_pos q]
  exact bnd0 (txt0 a) fun x=>bnd0 (txt0 b) fun y=>by split <;> first | exact er0 (by decide) | exact ok0 _
 rw[if_neg q];clear q;by_cases q:o=10
 ·rw[if_pos q];exact numb0 _ _ _
 rw[if_neg q];clear q;by_cases q:o=23
 ·rw[if_pos q];exact bnd0 (ord0 _ _ _ _ _ _) fun _=>ok0 _
 rw[if_neg q];clear q;by_cases q:o=24
 ·rw[if_pos q];exact bnd0 (ord0 _ _ _ _ _ _) fun _=>ok0 _
 rw[if_neg q];clear q;by_cases q:o=25
 ·rw[if_pos q];exact bnd0 (ord0 _ _ _ _ _ _) fun _=>ok0 _
 rw[if_neg q];clear q;by_cases q:o=26
 ·rw[if_pos q];exact bnd0 (ord0 _ _ _ _ _ _) fun _=>ok0 _
 rw[if_neg q];clear q;by_cases q:o=27
 ·rw[if_pos q];exact ok0 _
 rw[if_neg q];clear q;by_cases q:o=28
 ·rw[if_pos q];exact ok0 _
 rw[if_neg q];clear q;by_cases q:o=7\/o=8
 ·rw[if_pos q]
  unfold VPure.prt prtR;by_cases q5:a.k=5
  ·rw[if_pos q5]
   (repeat' split) <;> first | exact er0 (by decide) | exact ok0 _
  ·rw[if_neg q5]
   by_cases q6:a.k=6/\b.k=4
   ·rw[if_pos q6]
    cases Part.fi a.n b.s with
    | none=>exact er0 (by decide)
    | some q=>exact ok0 _
   ·rw[if_neg q6];exact er0 (by decide)
 rw[if_neg q];clear q;by_cases q:o=9
 ·rw[if_pos q]
  unfold cal;by_cases q1:b.i=1
  ·rw[if_pos q1]
   refine mapI0 ?_;unfold lenI;(repeat' split) <;> first | exact er0 (by decide) | exact ok0 _
  rw[if_neg q1];by_cases q2:b.i=2
  ·rw[if_pos q2];exact mapS0 (txt0 a)
  ·rw[if_neg q2]
   refine mapI0 ?_;unfold tunI;split <;> first | exact er0 (by decide) | exact ok0 _
 rw[if_neg q];clear q;by_cases q:o=11
 ·rw[if_pos q]
  refine mapB0 ?_;unfold notT;split <;> first | exact er0 (by decide) | exact ok0 _
 rw[if_neg q];clear q;by_cases q:o=20\/o=21\/o=22
 ·rw[if_pos q]
  refine mapI0 ?_;unfold twX;(repeat' split) <;> first | exact er0 (by decide) | exact ok0 _
 rw[if_neg q];clear q;exact numb0 _ _ _
theorem kd_pos {o:Int} {n:Nat} (h:(n:Int)=kd o) (h1 : ¬ (1<=o/\o<=6)):0<n/\(¬ (o=7\/o=9\/o=10\/o=11)->1<n)/\(o=31->2<n):=by
 unfold kd at h;rw[if_neg h1] at h;by_cases h2:o=7\/o=9\/o=10\/o=11
 ·rw[if_pos h2] at h;exact⟨by omega,fun q=>(q h2).elim,fun q=>by omega⟩
 rw[if_neg h2] at h;by_cases h3:o=8\/(12<=o/\o<=30)
 ·rw[if_pos h3] at h;exact⟨by omega,fun _=>by omega,fun q=>by omega⟩
 rw[if_neg h3] at h;by_cases h4:o=31
 ·rw[if_pos h4] at h;exact⟨by omega,fun _=>by omega,fun q=>by omega⟩
 rw[if_neg h4] at h;omega
theorem node0 {ρ:ByteArray->Option C} {o i:Int} {s:ByteArray} {p:List Ans} (hk:(p.length:Int)=kd o) (hp:∀ q,q<p.length->N0 (p.getD q (.error 0))):N0 (node ρ o i s p):=by
 unfold node;by_cases q1:o=1
 ·rw[if_pos q1];exact ok0 _
 rw[if_neg q1];by_cases q2:o=2\/o=3
 ·rw[if_pos q2];exact ok0 _
 rw[if_neg q2];by_cases q4:o=4
 ·rw[if_pos q4];exact ok0 _
 rw[if_neg q4];by_cases q5:o=5
 ·rw[if_pos q5];exact ok0 _
 rw[if_neg q5];by_cases q6:o=6
 ·rw[if_pos q6]
  cases ρ s with
  | none=>exact er0 (by decide)
  | some c=>exact ok0 _
 rw[if_neg q6];obtain⟨k0,k1,k2⟩:=kd_pos hk (by omega);have h0:=hp 0 k0;by_cases q29:o=29\/o=30
 ·rw[if_pos q29]
  have h1:=hp 1 (k1 (by omega));exact bnd0 (bnd0 h0 isT0) fun b=>by
   split
   ·exact ok0 _
   ·exact bnd0 (bnd0 h1 isT0) fun c=>ok0 _
 rw[if_neg q29];by_cases q31:o=31
 ·rw[if_pos q31]
  have h1:=hp 1 (k1 (by omega));have h2:=hp 2 (k2 q31);exact bnd0 (bnd0 h0 isT0) fun b=>by
   split
   ·exact h1
   ·exact h2
 rw[if_neg q31];refine bnd0 h0 fun a=>bnd0 ?_ fun b=>pr20 o a b
 unfold snd2;by_cases r7:o=7
 ·rw[if_pos r7];exact ok0 _
 rw[if_neg r7];by_cases r9:o=9
 ·rw[if_pos r9];exact ok0 _
 rw[if_neg r9];by_cases r10:o=10\/o=11
 ·rw[if_pos r10];exact ok0 _
 rw[if_neg r10];exact hp 1 (k1 (by omega))
theorem evL_len (ρ:Int->Option C):∀ l:List Ex,(evL ρ l).length=l.length
 | []=>by rw[evL];rfl
 | x :: t=>by rw[evL_cons,List.length_cons,List.length_cons,evL_len ρ t]
theorem evL0 {ρ:Int->Option C}:∀ (l:List Ex),gdL l->∀ q,q<(evL ρ l).length->N0 ((evL ρ l).getD q (.error 0))
 | [],_,q,h=>by rw[evL] at h;simp at h
 | .mk o i s l :: t,hg,0,h=>by
  rw[gdL] at hg;rw[evL];show N0 (node (fun _=>ρ i) o i s (evL ρ l));exact node0 (by rw[evL_len];exact hg.1.1) (evL0 (ρ:=ρ) l hg.1.2.2)
 | .mk o i s l :: t,hg,q+1,h=>by
  rw[gdL] at hg;rw[evL] at h ⊢;have:=evL0 (ρ:=ρ) t hg.2 q (by simpa using h);simpa using this
theorem ev0 {ρ:Int->Option C} {x:Ex} (hg:gd x):N0 (ev ρ x):=node0 (by rw[evL_len];exact hg.1) (evL0 x.l hg.2.2)
end Go.Proofs.YtdolgmmldncfkaaGreatDoor.JEs
namespace Go.Proofs.YtdolgmmldncfkaaGreatDoor.GIs
open Go.RowKit Base EPure JPure JEs GTr GAt GAs GTx GNo GNe GRn GKl GAn GRa
open VPure hiding evL
open KBase (Pt Fld Co)
open TBase (T)
open Walk (pl plL)
theorem isL0 (c:C):N0 (isL c):=by unfold isL;split <;> first | exact ok0 _ | exact er0 (by decide)
theorem isK0 (c:C):N0 (isK c):=by unfold isK;split <;> first | exact ok0 _ | exact er0 (by decide)
theorem aV0 (c:C):N0 (aV c):=by
 unfold aV;split
 ·exact ok0 _
 ·split
  ·exact ok0 _
  ·exact bnd0 (txt0 c) fun _=>ok0 _
theorem atr0 {L:List C} {p:ByteArray} {b:Bool} {x:Ex} (hg:b=true->gd x):N0 (atr L p b x):=by
 unfold atr;split
 ·rename_i h;exact bnd0 (ev0 (hg h)) aV0
 ·exact ok0 _
theorem tpc0 {L:List C} {p:ByteArray} {b:Bool} {x:Ex} (hg:b=true->gd x):N0 (tpc L p b x):=by
 unfold tpc;split
 ·rename_i h;exact bnd0 (ev0 (hg h)) txt0
 ·exact ok0 _
theorem ats0 {L:List C}:∀ (f:List Fld),(∀ j (h:j<f.length),f[j].b=true->gd f[j].e)->N0 (ats L f)
 | [],_=>by rw[ats];exact ok0 _
 | c :: t,h=>by
  rw[ats];exact bnd0 (atr0 (h 0 (by simp))) fun a=>bnd0 (ats0 t fun j hj=>by have:=h (j+1) (by simp;omega);simpa using this) fun _=>ok0 _
theorem tgo0 {L:List C}:∀ (f:List Pt) (n:Nat),(∀ j (h:j<f.length),f[j].b=true->gd f[j].e)->N0 (tgo L f n)
 | [],_,_=>by rw[tgo];exact ok0 _
 | c :: t,n,h=>by
  rw[tgo];refine bnd0 (tpc0 (h 0 (by simp))) fun s=>?_
  split
  ·exact er0 (by decide)
  ·exact bnd0 (tgo0 t _ fun j hj=>by have:=h (j+1) (by simp;omega);simpa using this) fun _=>ok0 _
theorem kys0 {L:List C} {x:Ex} (hg:gd x):∀ (l:List C) (i:Nat) (ks:List (Int × Int × ByteArray)),N0 (kys L x l i ks)
 | [],_,_=>by rw[kys];exact ok0 _
 | v :: t,i,ks=>by
  rw[kys];refine bnd0 (bnd0 (ev0 hg) isK0) fun k=>?_
  split
  ·exact er0 (by decide)
  ·exact kys0 hg t _ _
theorem wth0:∀ (xs:List Ex) (L:List C),(∀ x ∈ xs,gd x)->N0 (wth L xs)
 | [],L,_=>by rw[wth];exact ok0 _
 | x :: t,L,h=>by
  rw[wth];exact bnd0 (ev0 (h x (by simp))) fun v=>wth0 t _ fun y hy=>h y (by simp [hy])
theorem rnL0 {f:Co->Int->Except Nat (List T × Int)}:∀ (cs:List Co) (r:Int) (F:List T),(∀ d ∈ cs,∀ x,N0 (f d x))->N0 (rnL f cs r F)
 | [],r,F,_=>by rw[rnL];exact ok0 _
 | c :: t,r,F,h=>by
  rw[rnL];exact bnd0 (h c (by simp) r) fun a=>rnL0 t _ _ fun d hd=>h d (by simp [hd])
theorem lp0 {f:Nat->C->Int->Except Nat (List T × Int)} (h:∀ i v x,N0 (f i v x)):∀ (l:List C) (i:Nat) (r:Int) (F:List T),N0 (lp f l i r F)
 | [],_,_,_=>by rw[lp];exact ok0 _
 | v :: t,i,r,F=>by
  rw[lp];exact bnd0 (h i v r) fun a=>lp0 h t _ _ _
theorem rn0:∀ (n:Nat) (s:Nat) (c:Co),oks n s c->∀ (L:List C) (x:Int),N0 (rn n L c x)
 | 0,s,c,h=>by rw[oks] at h;exact h.elim
 | n+1,s,c,h=>by
  intro L x;rw[oks] at h;obtain⟨hx,hf,hs,h⟩:=h;rcases h with k|⟨k,hfl,hl⟩|⟨k,hn,hl,hu⟩|⟨k,hn,h2,hl⟩|⟨k,h2,hl⟩
  ·rw[rn,if_pos k]
   refine bnd0 ?_ fun _=>ok0 _
   unfold nT;split
   ·exact er0 (by decide)
   ·exact bnd0 (tgo0 _ _ fun j hj hb=>(hx _ (mem_p hj hb)).1) fun _=>ok0 _
  ·rw[rn,if_neg (by omega),if_pos k]
   refine bnd0 ?_ fun _=>ok0 _
   unfold nE;split
   ·exact er0 (by decide)
   ·exact bnd0 (ats0 _ fun j hj hb=>(hx _ (mem_f hj hb)).1) fun _=>bnd0 (rnL0 _ _ _ fun d hd x=>rn0 n s d (hl d hd) L x) fun _=>ok0 _
  ·obtain⟨y,hy⟩ : ∃ y,c.x=[y]:=List.length_eq_one_iff.1 hn
   rw[rn,if_neg (by omega),if_neg (by omega),if_pos k];have e0:GRn.x0 c=y:=by unfold GRn.x0;rw[hy];rfl
   rw[e0];refine bnd0 (bnd0 (ev0 (hx y (mem_x (by rw[hy];simp))).1) isT0) fun b=>?_
   cases b
   ·exact rnL0 _ _ _ fun d hd x=>rn0 n s d (hu d hd) L x
   ·exact rnL0 _ _ _ fun d hd x=>rn0 n s d (hl d hd) L x
  ·obtain⟨y0,y1,hy⟩ : ∃ y0 y1,c.x=[y0,y1]:=by
    match hc:c.x with
    | []=>rw[hc] at hn;simp at hn
    | [a]=>rw[hc] at hn;simp at hn
    | [a,b]=>exact⟨a,b,rfl⟩
    | a :: b :: d :: t=>rw[hc] at hn;simp at hn
   rw[rn,if_neg (by omega),if_neg (by omega),if_neg (by omega),if_pos k];have e0:GRn.x0 c=y0:=by unfold GRn.x0;rw[hy];rfl
   have e1:GRn.x1 c=y1:=by unfold GRn.x1;rw[hy];rfl
   rw[e0,e1];exact bnd0 (bnd0 (ev0 (hx y0 (mem_x (by rw[hy];simp))).1) isL0) fun l=>bnd0 (kys0 (hx y1 (mem_x (by rw[hy];simp))).1 _ _ _) fun _=>lp0 (fun i v x=>rnL0 _ _ _ fun d hd x=>rn0 n (s+2) d (hl d hd) _ x) _ _ _ _
  ·rw[rn,if_neg (by omega),if_neg (by omega),if_neg (by omega),if_neg (by omega)]
   exact bnd0 (wth0 _ _ fun y hy=>(hx y (mem_x hy)).1) fun L'=>rnL0 _ _ _ fun d hd x=>rn0 n _ d (hl d hd) L' x
theorem rnd_er {cs:List Co} {c:C} {e:Nat} (hi:icL cs) (h1:KNd.chk cs=0) (h2:vch c=0) (h:rnd cs c=.error e):(1100<=e/\e<=1107)\/e=1600\/e=1601:=by
 unfold rnd at h;rw[if_neg (by omega),if_neg (by omega)] at h;have hok:=chk_oks (cs:=cs) h1 hi;exact bnd0 (rnL0 (f:=rn (KVp.szL cs) [c]) cs 4096 [] fun d hd x=>rn0 _ 1 d (hok d hd) [c] x) (fun _=>ok0 _) e h
end Go.Proofs.YtdolgmmldncfkaaGreatDoor.GIs

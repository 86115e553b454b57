import Derived.BigQuiet
import Derived.Laws.Cover1
import Derived.Test.YtdolgmmldncfkaaGreatDoorPJ03
import Derived.Test.YtdolgmmldncfkaaGreatDoorPJ14
import Derived.Test.YtdolgmmldncfkaaGreatDoorPJ22
open Go.Proofs.Tryz
set_option linter.unusedVariables false
set_option maxRecDepth 20000
set_option maxHeartbeats 3200000
namespace Go.Proofs.YtdolgmmldncfkaaGreatDoor.KSh
open Go.RowKit Base EPure KBase
open XBase (four_box frozen_box Rg Four)
open SFit (ne ret_bool Lf lfv)
open STx (tg tmb_c)
def rlf (o i:Int) (t:ByteArray):Bool:=if o=6 then t.size == 0 else (i == 0) && tg t
def rsv (x:Ex):Bool:=decide (0<=SBe.bhL rlf [x] 1024)
theorem leaf_c:Lf 43 rlf:=by
 refine⟨fun args w=>by go_simp,?_⟩;intro o i t a n c w ho ht;have b0:Below w.heap.size w (w.alloc (.cells #[.int .i64 o,.int .i64 i,.string t,.slice a n c] 44)):=(Below.refl _ w).alloc (Nat.le_refl _) _;have hne:=ne t;by_cases h6:o=6
 ·have e:rlf o i t=(t.size == 0):=by unfold rlf;rw[if_pos h6]
  rw[e];obtain⟨z,hz⟩ : ∃ z,(t.size == 0)=z:=⟨_,rfl⟩;rw[hz] at hne ⊢;subst h6;clear e hz ho;go_enter func43,ntmps43;go_wp2_with fail
  go_ret
  exact⟨ret_bool rfl,b0⟩
 ·obtain rfl:o=5:=by omega
  have e:rlf 5 i t=((i == 0) && tg t):=rfl;rw[e];have cT:=tmb_c t ht (w.alloc (.cells #[.int .i64 5,.int .i64 i,.string t,.slice a n c] 44));obtain⟨z,hz⟩ : ∃ z,tg t=z:=⟨_,rfl⟩;rw[hz] at cT ⊢;clear e hz ho h6;cases hi:(i == 0) with
  | true=>
   rw[Bool.true_and];go_enter func43,ntmps43;go_wp2_with fail
   refine cT.mono ?_;rintro e W1 ⟨rfl,b1⟩;go_wp2_with fail
   go_ret
   exact⟨rfl,nx b0 b1⟩
  | false=>
   rw[Bool.false_and];go_enter func43,ntmps43;go_wp2_with fail
   go_ret
   exact⟨rfl,b0⟩
theorem resolved_c {m:Nat} {w:World} {v:Value} {x:Ex} (hin:XBase.In false (fun _=>True) w m v x) :
  Calls prog 23 #[v] w fun e w'=>e=.returned (.bool (rsv x))/\Below w.heap.size w w':=by
 obtain⟨m',lv,rfl,rfl,-⟩:=hin.shape;have b0:Below w.heap.size w (w.alloc (.cells #[.int .i64 x.o,.int .i64 x.i,.string x.s,lv] 44)):=(Below.refl _ w).alloc (Nat.le_refl _) _;have cB:=SBe.tree_c leaf_c (r:=1024) (hin.below b0) (by omega) (by omega);obtain⟨Z,hZ⟩ : ∃ Z,rsv x=Z:=⟨_,rfl⟩;have hZ':decide (0<=SBe.bhL rlf [x] 1024)=Z:=hZ;rw[hZ'] at cB;rw[hZ];clear hZ hZ';go_enter func23,ntmps23;go_wp2_with fail
 refine cB.mono ?_;rintro e W1 ⟨rfl,b1⟩;go_wp2_with fail
 go_ret
 exact⟨rfl,nx b0 b1⟩
def nn (x:Ex):Bool:=(x.o == 0) && ((x.i == 0) && ((x.s.size == 0) && ((x.l.length:Int) == 0)))
theorem none_c {w:World} {x:Ex} {a:Option Addr} {cap:Nat} (hl:x.l.length<=140737488351232) :
  Calls prog 170 #[.agg #[.int .i64 x.o,.int .i64 x.i,.string x.s,.slice a x.l.length cap]] w fun e w'=>e=.returned (.bool (nn x))/\Below w.heap.size w w':=by
 have b0:Below w.heap.size w (w.alloc (.cells #[.int .i64 x.o,.int .i64 x.i,.string x.s,.slice a x.l.length cap] 44)):=(Below.refl _ w).alloc (Nat.le_refl _) _;unfold nn;have hne:=ne x.s;obtain⟨o,ho⟩ : ∃ o,x.o=o:=⟨_,rfl⟩;obtain⟨i,hi⟩ : ∃ i,x.i=i:=⟨_,rfl⟩;obtain⟨s,hs⟩ : ∃ s,x.s=s:=⟨_,rfl⟩;obtain⟨n,hn⟩ : ∃ n,x.l.length=n:=⟨_,rfl⟩;rw[ho,hi,hs,hn] at b0;rw[hn] at hl;rw[hs] at hne;rw[ho,hi,hs,hn];clear ho hi hs hn;suffices H:∀ (x0 x1 x2 x3:Bool),(o == 0)=x0->(i == 0)=x1->s.toList.isEmpty=x2->((n:Int) == 0)=x3->Calls prog 170 #[.agg #[.int .i64 o,.int .i64 i,.string s,.slice a n cap]] w fun e w'=>e=.returned (.bool (x0 && (x1 && (x2 && x3))))/\Below w.heap.size w w' by
  have:=H _ _ _ _ rfl rfl rfl rfl;rw[hne] at this;exact this
 clear hne;intro x0 x1 x2 x3 h0 h1 h2 h3;cases x0;all_goals try cases x1
 all_goals try cases x2
 all_goals
  go_enter func170,ntmps170;go_wp2_with fail
  go_ret
  exact⟨ret_bool rfl,b0⟩
def vOk (c:Pt):Bool:=if c.b=true then c.p.size == 0 else tg c.p && nn c.e
theorem six_new {w:World} (v0 v1 v2 v3 v4 v5:Value) (t:TypeId):∃ W,w.alloc (.cells #[v0,v1,v2,v3,v4,v5] t)=W/\Below w.heap.size w W/\W.heap.size=w.heap.size+1/\W.heap[w.heap.size]? = some (.cells #[v0,v1,v2,v3,v4,v5] t (0,0)):=
 ⟨_,rfl,(Below.refl _ w).alloc (Nat.le_refl _) _,by simp,heap_alloc_new w _⟩
theorem value_c {w:World} {u:Value} {c:Pt} {S:Nat->Prop} {r:Bool} (hin:InP r S w u c) :
  Calls prog 167 #[u] w fun e w'=>e=.returned (.bool (vOk c))/\Below w.heap.size w w':=by
 obtain⟨m,e0,e1,e2,e3,rfl,hp,hx⟩:=hin
 obtain⟨m',a,cap,rfl,rfl,rfl,rfl,rfl,-,-,-,hl⟩:=hx.kinds;obtain⟨aa,cc,hsl,-,-,hl,-,-⟩:=hl;cases hsl;obtain⟨p,b,x⟩:=c;dsimp only at hp hx hl ⊢
 obtain⟨W0,hW0,b0,hs0,q0⟩:=six_new (w:=w) (.string p) (.bool b) (.int .i64 x.o) (.int .i64 x.i) (.string x.s) (.slice a x.l.length cap) 65;obtain⟨k0,k1,k2,k3,k4,k5⟩:=six_box q0;have HB0:=hid b0;have HQ0:=hid q0;have hne:=ne p;clear b0 q0 hx;cases b with
 | true=>
  have e:vOk ⟨p,true,x⟩=(p.size == 0):=rfl;rw[e];obtain⟨z,hz⟩ : ∃ z,(p.size == 0)=z:=⟨_,rfl⟩;rw[hz] at hne ⊢;clear e hz;go_enter func167,ntmps167;go_wp2_with fail
  try rw[hW0]
  go_ret
  exact⟨ret_bool rfl,HB0.out⟩
 | false=>
  have e:vOk ⟨p,false,x⟩=(tg p && nn x):=rfl;rw[e];have cT:=tmb_c p hp W0;have cN:=fun W=>none_c (w:=W) (x:=x) (a:=a) (cap:=cap) (by omega)
  obtain⟨y,hy⟩ : ∃ y,nn x=y:=⟨_,rfl⟩;rw[hy] at cN ⊢;clear e hy;cases hz:tg p with
  | true=>
   rw[hz] at cT;rw[Bool.true_and];go_enter func167,ntmps167;go_wp2_with fail
   try rw[hW0]
   refine cT.mono ?_;rintro e W1 ⟨rfl,b1⟩;obtain⟨j0,j1,j2,j3,j4,j5⟩:=six_box ((b1.block w.heap.size (by omega)).trans HQ0.out);have HB1:=hid (nx HB0.out b1);clear b1 cT;go_wp2_with fail
   refine (cN _).mono ?_;rintro e W2 ⟨rfl,b2⟩;have HB2:=hid (nx HB1.out b2);clear b2;go_wp2_with fail
   go_ret
   exact⟨rfl,HB2.out⟩
  | false=>
   rw[hz] at cT;rw[Bool.false_and];go_enter func167,ntmps167;go_wp2_with fail
   try rw[hW0]
   refine cT.mono ?_;rintro e W1 ⟨rfl,b1⟩;have HB1:=hid (nx HB0.out b1);clear b1 cT;go_wp2_with fail
   go_ret
   exact⟨rfl,HB1.out⟩
end Go.Proofs.YtdolgmmldncfkaaGreatDoor.KSh
namespace Go.Proofs.YtdolgmmldncfkaaGreatDoor.KRo
open Go.RowKit Base KBase KSh
open SFit (ne ret_bool)
def rw1:Bool->List Pt->Bool
 | _,[]=>true
 | z,c :: t=>(c.b || ((!(c.p.size == 0)) && z)) && rw1 c.b t
def pv (l:List Pt):Nat->Bool
 | 0=>true
 | q+1=>match l[q]? with
  | some c=>c.b
  | none=>true
def rowOk (l:List Pt):Bool:=rw1 true l && decide (0<(l.length:Int))
theorem pv_succ (l:List Pt) (q:Nat) (h:q<l.length):pv l (q+1)=l[q].b:=by
 simp only [pv, List.getElem?_eq_getElem h]
theorem row_c {w:World} {v:Value} {l:List Pt} {S:Nat->Prop} {r:Bool} (hin:RP r S w v l) :
  Calls prog 168 #[v] w fun e w'=>e=.returned (.bool (rowOk l))/\Below w.heap.size w w':=by
 obtain⟨a,cap,rfl,hlc,hcm,hlen,hnil,hL⟩:=hin
 have HL:=hid hL;obtain⟨T,hT⟩ : ∃ T,rw1 true l=T:=⟨_,rfl⟩;have HT:=hid hT;have e:rowOk l=(T && decide (0<(l.length:Int))):=by unfold rowOk;rw[hT]
 rw[e];clear e hT hL;go_enter func168,ntmps168;go_wp2_with fail
 go_loopw [7] (fun i wr=>∃ q:Nat,q<=l.length/\i=.int .i64 q/\rw1 (pv l q) (l.drop q)=T/\Below w.heap.size w wr) (fun i _=>l.length - (intOf i).toNat)
 case atStart=>exact⟨0,by omega,rfl,HT.out,Below.refl _ _⟩
 case round=>
  clear HT;obtain⟨q,hq,rfl,hM,hb⟩:=hrel;by_cases hlt:q<l.length
  ·have d0:decide ((q:Int)<(l.length:Int))=true:=by simp;omega
   obtain⟨g,o,u,ha,hSg,hu,hi⟩:=HL.out.elem hlt;subst ha;obtain⟨v0,v1,e0,e1,e2,e3,rfl,c0,c1,c2,c3,c4,c5⟩:=hu;obtain⟨ea,ec,rfl,rfl,rfl,rfl,rfl,rfl,hp,-⟩:=hi.six;have c0:=below_cell c0 hb;have c1:=below_cell c1 hb;have c2:=below_cell c2 hb;have c3:=below_cell c3 hb;have c4:=below_cell c4 hb;have c5:=below_cell c5 hb;have hdrop:=List.drop_eq_getElem_cons hlt;have hnext:=pv_succ l q hlt;rw[hdrop,rw1] at hM;obtain⟨p,hp'⟩ : ∃ p,l[q].p=p:=⟨_,rfl⟩;obtain⟨b,hb'⟩ : ∃ b,l[q].b=b:=⟨_,rfl⟩;obtain⟨x,hx'⟩ : ∃ x,l[q].e=x:=⟨_,rfl⟩;rw[hx'] at c2 c3 c4 c5;rw[hp'] at c0 hp;rw[hb'] at c1;rw[hp',<- hnext] at hM;rw[hnext.trans hb'] at hM;have hne:=ne p;have HNX:=hid (hnext.trans hb');have hM2:rw1 b (l.drop (q+1))=rw1 (pv l (q+1)) (l.drop (q+1)):=by rw[HNX.out]
   rw[hM2] at hM;have HB0:Hid (Below w.heap.size w (wr.alloc (.cells #[.string p,.bool b,.int .i64 x.o,.int .i64 x.i,.string x.s,.slice ea x.l.length ec] 65))):=hb.alloc hb.size _;have Hb:=hid hb;clear hi hdrop hnext hp' hb' hx' hb hM2;cases b with
   | true=>
    rw[Bool.true_or,Bool.true_and] at hM;have HM:=hid hM;clear hM;go_wp2_with fail
    go_roundw
    case rel=>exact⟨q+1,by omega,by go_num,HM.out,HB0.out⟩
    case measure=>simp only [intOf];omega
   | false=>
    rw[Bool.false_or] at hM;cases hz:(p.size == 0) with
    | true=>
     rw[hz] at hne hM;have hT:false=T:=by rw[<- hM];rfl
     subst hT;clear hM;go_wp2_with fail
     go_ret
     exact⟨rfl,HB0.out⟩
    | false=>
     rw[hz] at hne hM;rw[Bool.not_false,Bool.true_and] at hM;cases q with
     | zero=>
      have e1:pv l 0=true:=rfl;rw[e1,Bool.true_and] at hM;have HM:=hid hM;clear hM e1;rw[Nat.zero_mul,Nat.add_zero] at c0 c1 c2 c3 c4 c5;go_wp2_with fail
      go_roundw
      case rel=>exact⟨1,by omega,by go_num,HM.out,HB0.out⟩
      case measure=>simp only [intOf];omega
     | succ j=>
      have hj:j<l.length:=by omega
      obtain⟨g',o',u',E,-,hu',hi'⟩:=HL.out.elem hj;obtain⟨rfl,rfl⟩ : g=g'/\o=o':=by cases E;exact⟨rfl,rfl⟩
      obtain⟨v0',v1',e0',e1',e2',e3',rfl,-,c1',-,-,-,-⟩:=hu';obtain⟨-,rfl,-,-⟩:=hi'.kinds;have c1':=below_cell (below_cell c1' Hb.out) ((Below.refl _ wr).alloc (Nat.le_refl _) (.cells #[.string p,.bool false,.int .i64 x.o,.int .i64 x.i,.string x.s,.slice ea x.l.length ec] 65));obtain⟨z,hz'⟩ : ∃ z,l[j].b=z:=⟨_,rfl⟩;rw[hz'] at c1';rw[pv_succ l j hj,hz'] at hM;have hj1:((j+1:Nat):Int) - 1=(j:Int):=by omega
      have hj2:(0:Int)<=(j:Int):=by omega
      have hj3:(j:Int)<(l.length:Int):=by omega
      have hj4:decide ((0:Int)<((j+1:Nat):Int))=true:=decide_eq_true (by omega);clear hi' E hz';cases z with
      | true=>
       rw[Bool.true_and] at hM;have HM:=hid hM;clear hM;go_wp2_with fail
       go_roundw
       case rel=>exact⟨j+1+1,by omega,by go_num,HM.out,HB0.out⟩
       case measure=>simp only [intOf];omega
      | false=>
       have hT:false=T:=by rw[<- hM];rfl
       subst hT;clear hM;go_wp2_with fail
       go_ret
       exact⟨rfl,HB0.out⟩
  ·have d0:decide ((q:Int)<(l.length:Int))=false:=by simp;omega
   have hT:true=T:=by
    rw[List.drop_eq_nil_of_le (by omega),rw1] at hM;exact hM
   subst hT;clear hM;go_wp2_with fail
   go_ret
   exact⟨ret_bool (by simp),hb⟩
def prOk (l:List Pt):Bool:=l.all vOk && rowOk l
theorem parts_c {w:World} {v:Value} {l:List Pt} {S:Nat->Prop} {r:Bool} (hin:RP r S w v l) :
  Calls prog 156 #[v] w fun e w'=>e=.returned (.bool (prOk l))/\Below w.heap.size w w':=by
 have HR:=hid hin
 obtain⟨a,cap,rfl,hlc,hcm,hlen,hnil,hL⟩:=hin
 have HL:=hid hL;obtain⟨T,hT⟩ : ∃ T,l.all vOk=T:=⟨_,rfl⟩;have HT:=hid hT;have e:prOk l=(T && rowOk l):=by unfold prOk;rw[hT]
 rw[e];clear e hT hL;go_enter func156,ntmps156;go_wp2_with fail
 go_loopw [7] (fun i wr=>∃ q:Nat,q<=l.length/\i=.int .i64 q/\(l.drop q).all vOk=T/\Below w.heap.size w wr) (fun i _=>l.length - (intOf i).toNat)
 case atStart=>exact⟨0,by omega,rfl,HT.out,Below.refl _ _⟩
 case round=>
  clear HT;obtain⟨q,hq,rfl,hM,hb⟩:=hrel;have Hb:=hid hb;by_cases hlt:q<l.length
  ·have d0:decide ((q:Int)<(l.length:Int))=true:=by simp;omega
   obtain⟨g,o,u,ha,hSg,hu,hi⟩:=HL.out.elem hlt;subst ha;have hi2:=hi.keep (Keep.of_below hb);obtain⟨v0,v1,e0,e1,e2,e3,rfl,c0,c1,c2,c3,c4,c5⟩:=hu;obtain⟨ea,ec,rfl,rfl,rfl,rfl,rfl,rfl,hp,-⟩:=hi.six;have c0:=below_cell c0 hb;have c1:=below_cell c1 hb;have c2:=below_cell c2 hb;have c3:=below_cell c3 hb;have c4:=below_cell c4 hb;have c5:=below_cell c5 hb;have hdrop:=List.drop_eq_getElem_cons hlt;rw[hdrop,List.all_cons] at hM;obtain⟨p,hp'⟩ : ∃ p,l[q].p=p:=⟨_,rfl⟩;obtain⟨b,hb'⟩ : ∃ b,l[q].b=b:=⟨_,rfl⟩;obtain⟨x,hx'⟩ : ∃ x,l[q].e=x:=⟨_,rfl⟩;rw[hx'] at c2 c3 c4 c5;obtain⟨W0,hW0,b0,hs0,q0⟩:=six_new (w:=wr) (.string p) (.bool b) (.int .i64 x.o) (.int .i64 x.i) (.string x.s) (.slice ea x.l.length ec) 65;have cV:=value_c (hi2.keep (Keep.of_below b0));rw[hp',hb',hx'] at cV;rw[hp'] at c0 hp;rw[hb'] at c1;obtain⟨z,hz⟩ : ∃ z,vOk l[q]=z:=⟨_,rfl⟩;rw[hz] at cV hM;obtain⟨k0,k1,k2,k3,k4,k5⟩:=six_box q0;have HB0:=hid (nx hb b0)
   have HM:=hid hM;clear hi hi2 hdrop hp' hb' hx' hb hz q0 b0 hM;go_wp2_with fail
   try rw[hW0]
   refine cV.mono ?_;rintro e W1 ⟨rfl,b1⟩;have HB1:=hid (nx HB0.out b1);clear cV b1 hW0;cases z with
   | true=>
    go_wp2_with fail
    go_roundw
    case rel=>exact⟨q+1,by omega,by go_num,by have:=HM.out;rw[Bool.true_and] at this;exact this,HB1.out⟩
    case measure=>simp only [intOf];omega
   | false=>
    have hT:false=T:=by have:=HM.out;rw[Bool.false_and] at this;exact this
    subst hT;go_wp2_with fail
    go_ret
    exact⟨rfl,HB1.out⟩
  ·have d0:decide ((q:Int)<(l.length:Int))=false:=by simp;omega
   have hT:true=T:=by
    rw[List.drop_eq_nil_of_le (by omega)] at hM;exact hM
   subst hT;have cR:=row_c (RP.keep (Keep.of_below hb) HR.out);clear hM hb;go_wp2_with fail
   refine cR.mono ?_;rintro e W1 ⟨rfl,b1⟩;go_wp2_with fail
   go_ret
   exact⟨ret_bool (by simp),nx Hb.out b1⟩
end Go.Proofs.YtdolgmmldncfkaaGreatDoor.KRo
namespace Go.Proofs.YtdolgmmldncfkaaGreatDoor.KFd
open Go.RowKit Base KBase KSh
open SFit (ne ret_bool)
theorem drewN_below {n:Nat} {w w':World} (h:Below n w w') (k:Nat):Below n w (w'.drewN k):=h.trans ⟨rfl,rfl,rfl,by simp,fun _ _=>by simp⟩
def nlt (z:Option ByteArray) (n:ByteArray):Bool:=match z with
 | none=>true
 | some p=>Op.bytesLess p.toList n.toList
def fl1:Option ByteArray->List Fld->Bool
 | _,[]=>true
 | z,c :: t=>(UBase.word c.n 45 && (nlt z c.n && ((c.a == 0) && vOk ⟨c.p,c.b,c.e⟩))) && fl1 (some c.n) t
def fvP (l:List Fld):Nat->Option ByteArray
 | 0=>none
 | q+1=>(l[q]?).map Fld.n
theorem fvP_succ (l:List Fld) (q:Nat) (h:q<l.length):fvP l (q+1)=some l[q].n:=by
 simp only [fvP, List.getElem?_eq_getElem h, Option.map_some]
theorem eight_new {w:World} (v0 v1 v2 v3 v4 v5 v6 v7:Value) (t:TypeId):∃ W,w.alloc (.cells #[v0,v1,v2,v3,v4,v5,v6,v7] t)=W/\Below w.heap.size w W/\W.heap.size=w.heap.size+1/\W.heap[w.heap.size]? = some (.cells #[v0,v1,v2,v3,v4,v5,v6,v7] t (0,0)):=
 ⟨_,rfl,(Below.refl _ w).alloc (Nat.le_refl _) _,by simp,heap_alloc_new w _⟩
theorem le_lt:∀ (x y:List UInt8),(Op.bytesLess x y || (x == y)) = !(Op.bytesLess y x)
 | [],[]=>by simp [Op.bytesLess]
 | [],b :: y=>by simp [Op.bytesLess]
 | a :: x,[]=>by simp [Op.bytesLess]
 | a :: x,b :: y=>by
  have ih:=le_lt x y;simp only [Op.bytesLess, List.cons_beq_cons];rcases Nat.lt_trichotomy a.toNat b.toNat with h|h|h
  ·have h1:decide (a<b)=true:=decide_eq_true (UInt8.lt_iff_toNat_lt.2 h)
   have h2:decide (b<a)=false:=decide_eq_false (fun k=>by have:=UInt8.lt_iff_toNat_lt.1 k;omega);have h3:(b == a)=false:=by
    rw[beq_eq_false_iff_ne];intro k;rw[k] at h;omega
   simp [h1, h2, h3]
  ·obtain rfl:a=b:=UInt8.toNat_inj.1 h
   have h1:decide (a<a)=false:=decide_eq_false (fun k=>by have:=UInt8.lt_iff_toNat_lt.1 k;omega);simp only [h1, Bool.false_or, beq_self_eq_true, Bool.true_and];exact ih
  ·have h1:decide (a<b)=false:=decide_eq_false (fun k=>by have:=UInt8.lt_iff_toNat_lt.1 k;omega)
   have h2:decide (b<a)=true:=decide_eq_true (UInt8.lt_iff_toNat_lt.2 h);have h3:(a == b)=false:=by
    rw[beq_eq_false_iff_ne];intro k;rw[k] at h;omega
   simp [h1, h2, h3]
theorem fields_c {w:World} {v:Value} {l:List Fld} {S:Nat->Prop} {r:Bool} (hin:RF r S w v l) :
  Calls prog 159 #[v] w fun e w'=>e=.returned (.bool (fl1 none l))/\Below w.heap.size w w':=by
 obtain⟨a,cap,rfl,hlc,hcm,hlen,hnil,hL⟩:=hin
 have HL:=hid hL;obtain⟨T,hT⟩ : ∃ T,fl1 none l=T:=⟨_,rfl⟩;have HT:=hid hT;rw[hT];clear hT hL;go_enter func159,ntmps159;go_wp2_with fail
 go_loopw [7] (fun i wr=>∃ q:Nat,q<=l.length/\i=.int .i64 q/\fl1 (fvP l q) (l.drop q)=T/\Below w.heap.size w wr) (fun i _=>l.length - (intOf i).toNat)
 case atStart=>exact⟨0,by omega,rfl,HT.out,Below.refl _ _⟩
 case round=>
  clear HT;obtain⟨q,hq,rfl,hM,hb⟩:=hrel;have Hb:=hid hb;by_cases hlt:q<l.length
  ·have d0:decide ((q:Int)<(l.length:Int))=true:=by simp;omega
   obtain⟨g,o,u,ha,hSg,hu,hi⟩:=HL.out.elem hlt;subst ha;have hi2:=hi.keep (Keep.of_below hb);obtain⟨v0,v1,v2,e0,e1,e2,e3,v7,rfl,c0,c1,c2,c3,c4,c5,c6,c7⟩:=hu;obtain⟨ea,ec,rfl,rfl,rfl,rfl,rfl,rfl,rfl,rfl,hn,hp,-,hat⟩:=hi.eight;have c0:=below_cell c0 hb;have c1:=below_cell c1 hb;have c2:=below_cell c2 hb;have c3:=below_cell c3 hb;have c4:=below_cell c4 hb;have c5:=below_cell c5 hb;have c6:=below_cell c6 hb;have c7:=below_cell c7 hb;have hdrop:=List.drop_eq_getElem_cons hlt;have hnext:=fvP_succ l q hlt;rw[hdrop,fl1,<- hnext] at hM;obtain⟨y,hy⟩ : ∃ y,l[q]=y:=⟨_,rfl⟩;rw[hy] at c0 c1 c2 c3 c4 c5 c6 c7 hn hp hat hi2 hM;obtain⟨n,p,b,x,at'⟩:=y;dsimp only at c0 c1 c2 c3 c4 c5 c6 c7 hn hp hat hM
   obtain⟨W0,hW0,b0,hs0,q0⟩:=eight_new (w:=wr) (.string n) (.string p) (.bool b) (.int .i64 x.o) (.int .i64 x.i) (.string x.s) (.slice ea x.l.length ec) (.int .i64 at') 104;obtain⟨mm,f0,f1,f2,f3,hE,-,-,hxi,-⟩:=hi2;simp only [Value.agg.injEq, Array.mk.injEq, List.cons.injEq, and_true, true_and] at hE;obtain⟨rfl,rfl,rfl,rfl⟩:=hE;have HP:Hid (InP r S wr (.agg #[.string p,.bool b,.int .i64 x.o,.int .i64 x.i,.string x.s,.slice ea x.l.length ec]) ⟨p,b,x⟩):=⟨mm,_,_,_,_,rfl,hp,hxi⟩;have c67:=fun W=>UWord.tag_c n (by omega) W
   obtain⟨k0,k1,k2,k3,k4,k5,k6,k7⟩:=eight_box q0;have HB0:=hid (nx hb b0);have Hb0:=hid b0;have HQ0:=hid q0;clear hi hdrop hnext hb hy hxi q0 b0;obtain⟨Z,hZ⟩ : ∃ Z,fl1 (fvP l (q+1)) (l.drop (q+1))=Z:=⟨_,rfl⟩;have HZ:=hid hZ;rw[hZ] at hM;clear hZ;have more:∀ (nq:Nat),(at' == 0)=true->((vOk ⟨p,b,x⟩ && Z)=T)->Calls prog 167 #[.agg #[.string p,.bool b,.int .i64 x.o,.int .i64 x.i,.string x.s,.slice ea x.l.length ec]] (W0.drewN nq) fun e w'=>e=.returned (.bool (vOk ⟨p,b,x⟩))/\Below w.heap.size w w':=by
    intro nq _ _;refine (value_c (HP.out.keep (Keep.of_below (drewN_below Hb0.out nq)))).mono ?_;rintro e w' ⟨rfl,h⟩;exact⟨rfl,nx (drewN_below HB0.out nq) h⟩
   cases h1:UBase.word n 45 with
   | false=>
    rw[h1] at hM c67;have hT:false=T:=by rw[<- hM];rfl
    subst hT;clear hM more;go_wp2_with fail
    try rw[hW0]
    clear hW0;go_quiet (first | (go_at_call 158;exact Calls.quiet_of_same (c67 _)))
    go_wp2_with fail
    go_ret
    exact⟨rfl,drewN_below HB0.out _⟩
   | true=>
    rw[h1] at hM c67;rw[Bool.true_and] at hM;cases q with
    | zero=>
     have e1:nlt (fvP l 0) n=true:=rfl;rw[e1,Bool.true_and] at hM;clear e1;rw[Nat.zero_mul,Nat.add_zero] at c0 c1 c2 c3 c4 c5 c6 c7;cases h3:(at' == 0) with
     | false=>
      rw[h3] at hM;have hT:false=T:=by rw[<- hM];rfl
      subst hT;have h3':(at' != 0)=true:=by rw[bne,h3];rfl
      clear hM more;go_wp2_with fail
      try rw[hW0]
      clear hW0;go_quiet (first | (go_at_call 158;exact Calls.quiet_of_same (c67 _)))
      go_wp2_with fail
      go_ret
      exact⟨rfl,drewN_below HB0.out _⟩
     | true=>
      rw[h3,Bool.true_and] at hM;have h3':(at' != 0)=false:=by rw[bne,h3];rfl
      have cV:=fun nq=>more nq h3 hM
      have HM:=hid hM;clear hM more;go_wp2_with fail
      try rw[hW0]
      clear hW0;go_quiet (first | (go_at_call 158;exact Calls.quiet_of_same (c67 _)))
      go_wp2_with fail
      refine (cV _).mono ?_;rintro e W1 ⟨rfl,b1⟩;have HB1:=hid b1;have hM:=HM.out;clear b1 cV HM;cases hv:vOk ⟨p,b,x⟩ with
      | true=>
       rw[hv,Bool.true_and] at hM;have HM:=hid (HZ.out.trans hM);clear hM hv;go_wp2_with fail
       go_roundw
       case rel=>exact⟨1,by omega,by go_num,HM.out,HB1.out⟩
       case measure=>simp only [intOf];omega
      | false=>
       rw[hv,Bool.false_and] at hM;subst hM;clear hv;go_wp2_with fail
       go_ret
       exact⟨rfl,HB1.out⟩
    | succ j=>
     have hj:j<l.length:=by omega
     obtain⟨g',o',u',E,-,hu',hi'⟩:=HL.out.elem hj;obtain⟨rfl,rfl⟩ : g=g'/\o=o':=by cases E;exact⟨rfl,rfl⟩
     obtain⟨w0,w1,w2,e0',e1',e2',e3',w7,rfl,c0',-,-,-,-,-,-,-⟩:=hu';obtain⟨ea',ec',rfl,rfl,rfl,rfl,rfl,rfl,rfl,rfl,hn',-⟩:=hi'.eight;have c0':=below_cell (below_cell c0' Hb.out) Hb0.out;rw[fvP_succ l j hj] at hM;obtain⟨pn,hpn⟩ : ∃ pn,l[j].n=pn:=⟨_,rfl⟩;rw[hpn] at c0' hM hn';have e1:nlt (some pn) n=Op.bytesLess pn.toList n.toList:=rfl;rw[e1] at hM;have hj1:((j+1:Nat):Int) - 1=(j:Int):=by omega
     have hj2:(0:Int)<=(j:Int):=by omega
     have hj3:(j:Int)<(l.length:Int):=by omega
     have hj4:decide ((0:Int)<((j+1:Nat):Int))=true:=decide_eq_true (by omega);have hj5:IntKind.i64.wrap (((j+1:Nat):Int) - 1)=(j:Int):=by rw[IntKind.wrap_i64];omega
     have hj6:IntKind.i64.wrap (j:Int)=(j:Int):=by rw[IntKind.wrap_i64];omega
     have hle:=le_lt n.toList pn.toList;clear hi' E hpn e1;cases h2:Op.bytesLess pn.toList n.toList with
     | false=>
      rw[h2] at hM hle;rw[Bool.not_false] at hle;have hT:false=T:=by rw[<- hM];rfl
      subst hT;clear hM more h2;cases hl1:Op.bytesLess n.toList pn.toList with
      | true=>
       cases hl2:(n.toList == pn.toList) with
       | true=>
        go_wp2_with fail
        try rw[hW0]
        clear hW0;go_quiet (first | (go_at_call 158;exact Calls.quiet_of_same (c67 _)))
        go_wp2_with fail
        go_ret
        exact⟨rfl,drewN_below HB0.out _⟩
       | false=>
        go_wp2_with fail
        try rw[hW0]
        clear hW0;go_quiet (first | (go_at_call 158;exact Calls.quiet_of_same (c67 _)))
        go_wp2_with fail
        go_ret
        exact⟨rfl,drewN_below HB0.out _⟩
      | false=>
       rw[hl1,Bool.false_or] at hle;go_wp2_with fail
       try rw[hW0]
       clear hW0;go_quiet (first | (go_at_call 158;exact Calls.quiet_of_same (c67 _)))
       go_wp2_with fail
       go_ret
       exact⟨rfl,drewN_below HB0.out _⟩
     | true=>
      rw[h2,Bool.true_and] at hM;rw[h2,Bool.not_true,Bool.or_eq_false_iff] at hle;obtain⟨hl1,hl2⟩:=hle;clear h2;cases h3:(at' == 0) with
      | false=>
       rw[h3] at hM;have hT:false=T:=by rw[<- hM];rfl
       subst hT;have h3':(at' != 0)=true:=by rw[bne,h3];rfl
       clear hM more;go_wp2_with fail
       try rw[hW0]
       clear hW0;go_quiet (first | (go_at_call 158;exact Calls.quiet_of_same (c67 _)))
       go_wp2_with fail
       go_ret
       exact⟨rfl,drewN_below HB0.out _⟩
      | true=>
       rw[h3,Bool.true_and] at hM;have h3':(at' != 0)=false:=by rw[bne,h3];rfl
       have cV:=fun nq=>more nq h3 hM
       have HM:=hid hM;clear hM more;go_wp2_with fail
       try rw[hW0]
       clear hW0;go_quiet (first | (go_at_call 158;exact Calls.quiet_of_same (c67 _)))
       go_wp2_with fail
       refine (cV _).mono ?_;rintro e W1 ⟨rfl,b1⟩;have HB1:=hid b1;have hM:=HM.out;clear b1 cV HM;cases hv:vOk ⟨p,b,x⟩ with
       | true=>
        rw[hv,Bool.true_and] at hM;have HM:=hid (HZ.out.trans hM);clear hM hv;go_wp2_with fail
        go_roundw
        case rel=>exact⟨j+1+1,by omega,by go_num,HM.out,HB1.out⟩
        case measure=>simp only [intOf];omega
       | false=>
        rw[hv,Bool.false_and] at hM;subst hM;clear hv;go_wp2_with fail
        go_ret
        exact⟨rfl,HB1.out⟩
  ·have d0:decide ((q:Int)<(l.length:Int))=false:=by simp;omega
   have hT:true=T:=by
    rw[List.drop_eq_nil_of_le (by omega),fl1] at hM;exact hM
   subst hT;clear hM;go_wp2_with fail
   go_ret
   exact⟨rfl,Hb.out⟩
end Go.Proofs.YtdolgmmldncfkaaGreatDoor.KFd

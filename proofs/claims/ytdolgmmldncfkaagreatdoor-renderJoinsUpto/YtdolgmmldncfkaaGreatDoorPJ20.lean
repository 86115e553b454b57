import Derived.Deep.CutBlock
import Derived.Deep.RegionHeld3
import Derived.Test.YtdolgmmldncfkaaGreatDoorPJ00
import Derived.Test.YtdolgmmldncfkaaGreatDoorPJ01
import Derived.Test.YtdolgmmldncfkaaGreatDoorPJ04
import Derived.Test.YtdolgmmldncfkaaGreatDoorPJ19
open Go.Proofs.Tryz
set_option linter.unusedVariables false
set_option maxRecDepth 20000
set_option maxHeartbeats 6400000
namespace Go.Proofs.YtdolgmmldncfkaaGreatDoor.GTx
open Tak
open Go.RowKit Base EPure JPure VSm VJn VRs JVa GPl GVa GEn GAs
open VPure hiding evL
open KBase (Pt RP InP Pt6)
def tpc (L:List C) (p:ByteArray) (b:Bool) (x:Ex):Except Nat ByteArray:=if b=true then bnd (ev (rh L) x) txt else .ok p
def tgo (L:List C):List Pt->Nat->Except Nat (List UInt8)
 | [],_=>.ok []
 | f :: t,n=>bnd (tpc L f.p f.b f.e) fun s=>if 4096<n+s.size then .error 1107 else bnd (tgo L t (n+s.size)) fun r=>.ok (s.data.toList ++ r)
theorem tgo_bad {L:List C} {f:Pt} {t:List Pt} {l:List UInt8} {q:Nat} (h:tpc L f.p f.b f.e=.error q):app l (tgo L (f :: t) l.length)=.error q:=by
 rw[tgo,h];rfl
theorem tgo_big {L:List C} {f:Pt} {t:List Pt} {l:List UInt8} {s:ByteArray} (h:tpc L f.p f.b f.e=.ok s) (hb:4096<l.length+s.size):app l (tgo L (f :: t) l.length)=.error 1107:=by
 rw[tgo,h];show app l (if 4096<l.length+s.size then _ else _)=_;rw[if_pos hb];rfl
theorem len_l (s:ByteArray):s.data.toList.length=s.size:=by rw[Array.length_toList];rfl
theorem tgo_ok {L:List C} {f:Pt} {t:List Pt} {l:List UInt8} {s:ByteArray} (h:tpc L f.p f.b f.e=.ok s) (hb : ¬ 4096<l.length+s.size):app l (tgo L (f :: t) l.length)=app (l ++ s.data.toList) (tgo L t (l ++ s.data.toList).length):=by
 rw[tgo,h];show app l (if 4096<l.length+s.size then _ else _)=_;rw[if_neg hb,List.length_append,len_l];cases tgo L t (l.length+s.size) with
 | error q=>rfl
 | ok r=>show Except.ok (l ++ (s.data.toList ++ r))=Except.ok (l ++ s.data.toList ++ r);simp
theorem cells_len (l:List UInt8):(Lib.byteCells l).length=l.length:=by simp [Lib.byteCells]
theorem cells_app (l:List UInt8) (s:ByteArray):Lib.byteCells (l ++ s.data.toList)=Lib.byteCells l ++ Lib.strCells s:=by
 simp [Lib.byteCells, Lib.strCells]
theorem isb_below {T e:TypeId} {B b:Nat} {bs:List Value} {w w':World} (h:Lib.IsBuilder T e B b bs w) (hb:Below w.heap.size w w'):Lib.IsBuilder T e B b bs w':=by
 rcases h with ⟨h1,v,h2,h3,h4⟩|⟨h1,v,h2,h3,h4⟩
 ·exact .inl ⟨h1,v,(hb.block b (Array.getElem?_eq_some_iff.1 h2).1).trans h2,TBase.own_below h3 hb,h4⟩
 ·exact .inr ⟨h1,v,(hb.block b (Array.getElem?_eq_some_iff.1 h2).1).trans h2,TBase.own_below h3 hb,h4⟩
def SR (w:World) (a:Except Nat (List UInt8)) (e:Ending) (w':World):Prop:=Below w.heap.size w w'/\match a with
 | .ok l=>e=.returned (.string ⟨l.toArray⟩)
 | .error n=>e=.panicked (pkE n)
theorem text_c {K m:Nat} {w:World} {B:Nat} {Pv mk sv:Value} {r:Int} {L:List C} (h:Bs K m w B Pv mk sv r L) {pv:Value} {ps:List Pt} (hf:RP false (fun b=>b<K) w pv ps) (hg:∀ j (h:j<ps.length),ps[j].b=true->gd ps[j].e/\ops okOp ps[j].e) :
  Calls prog 75 #[ptr B,pv] w fun e w'=>SR w (tgo L ps 0) e w':=by
 have HB:=hid h;have HF:=hid hf;have HG:=hid hg;obtain⟨T,hT⟩ : ∃ T,tgo L ps 0=T:=⟨_,rfl⟩;rw[hT];have HT:Hid (app [] (tgo L (ps.drop 0) ([] : List UInt8).length)=T):=by show _=_;rw[app_nil,List.drop_zero];exact hT
 obtain⟨ps0,pc0,rfl,-⟩:=h.sk;obtain⟨a,cap,rfl,hlc,hcm,hlen,-,-⟩:=hf;clear h hg hT;go_enter func75,ntmps75;go_wp2_with fail
 go_loopw [11] (fun i wr=>∃ (q:Nat) (l:List UInt8),i=.int .i64 q/\q<=ps.length/\l.length<=4096/\app l (tgo L (ps.drop q) l.length)=T/\Lib.IsBuilder 155 5 w.heap.size w.heap.size (Lib.byteCells l) wr/\Below w.heap.size w wr) (fun i _=>ps.length - (intOf i).toNat)
 case atStart=>exact⟨0,[],rfl,by omega,by simp,HT.out,Lib.fresh_isBuilder 155 5 w,(Below.refl _ w).alloc (Nat.le_refl _) _⟩
 case round=>
  clear HT;obtain⟨q,l,rfl,hq,hl,hM,hI,hb⟩:=hrel;obtain⟨V,hV⟩ : ∃ V,V=wr:=⟨_,rfl⟩;subst hV;by_cases hlt:q<ps.length
  ·have d0:decide ((q:Int)<(ps.length:Int))=true:=by simp;omega
   have i0:(0:Int)<=(q:Int):=by omega
   have i1:(q:Int)<(ps.length:Int):=by omega
   obtain⟨aa,cc,hsl,-,-,-,-,hLA⟩:=HF.out;cases hsl;obtain⟨g,o,u,rfl,-,hu,hi⟩:=hLA.elem hlt;obtain⟨v0,v1,e0,e1,e2,e3,rfl,c0,c1,c2,c3,c4,c5⟩:=hu;obtain⟨mm,hxi⟩:=hi.kinds.2.2.2;obtain⟨ea,ec,rfl,rfl,rfl,rfl,rfl,rfl,hpl,-⟩:=hi.six;have c0:=below_cell c0 hb;have c1:=below_cell c1 hb;have c2:=below_cell c2 hb;have c3:=below_cell c3 hb;have c4:=below_cell c4 hb;have c5:=below_cell c5 hb;have hgq:=HG.out q hlt;rw[List.drop_eq_getElem_cons hlt] at hM;obtain⟨f,hff⟩ : ∃ f,ps[q]=f:=⟨_,rfl⟩;rw[hff] at c0 c1 c2 c3 c4 c5 hM hgq hxi hpl;obtain⟨W1,hW1⟩ : ∃ W1,V.alloc (.cells #[.string f.p,.bool f.b,.int .i64 f.e.o,.int .i64 f.e.i,.string f.e.s,.slice ea f.e.l.length ec] 65)=W1:=⟨_,rfl⟩;have b1:=alB hW1;have hs1:W1.heap.size=V.heap.size+1:=by rw[<- hW1];simp
   have HP1:=hid (alG hW1);have HD1:=hid (nx hb b1);have HI1:=hid (isb_below hI b1);have HBs1:=hid (HB.out.below HD1.out);obtain⟨k0,-,-,-⟩:=wk_box HBs1.out.box;obtain⟨z0,z1,z2,z3,z4,z5⟩:=six_box HP1.out;have HM:=hid hM;have HW1:=hid hW1;have HXI:=hid hxi;have HPL:=hid hpl;obtain⟨bb,hbb⟩ : ∃ bb,f.b=bb:=⟨_,rfl⟩;have HBB:=hid hbb;have HGQ:=hid hgq;clear hLA hi hxi hff hgq hM hb hI b1 hW1 hpl;cases bb with
   | false=>
    obtain⟨s,hs⟩ : ∃ s,f.p=s:=⟨_,rfl⟩;have HU:Hid (tpc L f.p f.b f.e=.ok s):=by show _=_;rw[HBB.out,<- hs];rfl
    have HSZ:Hid (s.size<=140737488351232):=by rw[<- hs];exact HPL.out
    rw[hs] at z0 c0 HP1 HW1;rw[hbb] at z1 c1 HP1 HW1;clear hs hbb;go_upto_region 8 with fail
    try rw[HW1.out]
    have cL:=Tryz.Builder_Len _ _ _ _ HI1.out;rw[cells_len] at cL;have hsl:=HSZ.out;have hw:IntKind.i64.wrap ((l.length:Int)+(s.size:Int))=(l.length:Int)+(s.size:Int):=by rw[IntKind.wrap_i64];omega
    go_wp2_with fail
    refine cL.mono ?_;rintro ee w' ⟨rfl,hw'⟩;subst w';by_cases hbig:4096<l.length+s.size
    ·have db:decide ((4096:Int)<(l.length:Int)+(s.size:Int))=true:=decide_eq_true (by omega)
     have hT:=HM.out;rw[tgo_big HU.out hbig] at hT;have hT:T=.error 1107:=hT.symm;subst hT;clear hbig;go_wp2_with fail
     exact⟨rfl,HD1.out,rfl⟩
    ·have db:decide ((4096:Int)<(l.length:Int)+(s.size:Int))=false:=decide_eq_false (by omega)
     have HM2:Hid (app (l ++ s.data.toList) (tgo L (ps.drop (q+1)) (l ++ s.data.toList).length)=T):=by
      show _=_;rw[<- HM.out,tgo_ok HU.out hbig]
     have hsz1:=HD1.out.size;have hgo:=HI1.out;have cW:=HBuild.text_c _ _ _ s _ HI1.out (by rw[cells_len];omega) (by omega);have hl2:(l ++ s.data.toList).length<=4096:=by
      rw[List.length_append];have:s.data.toList.length=s.size:=by rw[Array.length_toList];rfl
      omega
     clear hbig hgo;go_wp2_with fail
     refine cW.mono ?_;rintro ee W6 ⟨rfl,hI6,b6⟩;have HI6:Hid (Lib.IsBuilder 155 5 w.heap.size w.heap.size (Lib.byteCells (l ++ s.data.toList)) W6):=by
      show Lib.IsBuilder _ _ _ _ _ _;rw[cells_app];exact hI6
     have HD6:=hid (HD1.out.trans b6);clear hI6 b6 cW cL;go_wp2_with fail
     go_roundw
     case rel=>exact⟨q+1,l ++ s.data.toList,by go_num,by omega,hl2,HM2.out,HI6.out,HD6.out⟩
     case measure=>simp only [intOf];omega
   | true=>
    have cV:Hid (∀ W,Below w.heap.size w W->Calls prog 111 #[.slice ps0 L.length pc0,.agg #[.int .i64 f.e.o,.int .i64 f.e.i,.string f.e.s,.slice ea f.e.l.length ec]] W fun e w'=>VR K (m+1) W (ev (rh L) f.e) e w'):=fun W hW=>value_c ((HB.out.below hW).rk (HXI.out.below hW) (HGQ.out HBB.out).1 (HGQ.out HBB.out).2)
    have cT:Hid (∀ W u c,Below w.heap.size w W->Base.In false (fun b=>b<K) W (m+1) u c->Calls prog 110 #[u] W fun e w'=>An W w' e Value.string (txt c)):=fun W u c hW hu=>GPl.textOf_c hu.plain (HB.out.tb.below hW)
    have HU0:Hid (tpc L f.p f.b f.e=bnd (ev (rh L) f.e) txt):=by show _=_;rw[HBB.out];rfl
    rw[hbb] at z1 c1 HP1 HW1;generalize ev (rh L) f.e=U at *
    clear hbb;go_upto_region 7 with fail
    try rw[HW1.out]
    cases U with
    | error z=>
     have hT:=HM.out;rw[tgo_bad HU0.out] at hT;have hT:T=.error z:=hT.symm;subst hT;refine wp_region_held_drew (S:=fun w'=>w'.cell? ⟨B,0,none⟩=some (.slice ps0 L.length pc0)/\w'.cell? ⟨V.heap.size,2,none⟩=some (.int .i64 f.e.o)/\w'.cell? ⟨V.heap.size,3,none⟩=some (.int .i64 f.e.i)/\w'.cell? ⟨V.heap.size,4,none⟩=some (.string f.e.s)/\w'.cell? ⟨V.heap.size,5,none⟩=some (.slice ea f.e.l.length ec)) (by kernel_rfl) (by exact⟨k0,z2,z3,z4,z5⟩) (fun hHeld=>?_);refine tkH 0 rfl ?_;try simp only [ptH]
     refine tkH 1 rfl ?_;try simp only [ptH]
     refine tkH 2 rfl ?_;try simp only [ptH]
     refine tkH 3 rfl ?_;try simp only [ptH]
     refine tkH 4 rfl ?_;try simp only [ptH]
     refine tkH 5 rfl ?_;try simp only [ptH]
     refine rdH [6] ?_;refine alH rfl fun K0 hK=>?_
     go_simp
     refine (cV.out _ HD1.out.drew).mono ?_;rintro ee W2 ⟨b2,hq⟩;obtain rfl:=hq;exact⟨rfl,HD1.out.drew.trans (b2.mono (by have:=HD1.out.size;simp;omega)),rfl⟩
    | ok c=>
     refine wp_region_held_drew (S:=fun w'=>w'.cell? ⟨B,0,none⟩=some (.slice ps0 L.length pc0)/\w'.cell? ⟨V.heap.size,2,none⟩=some (.int .i64 f.e.o)/\w'.cell? ⟨V.heap.size,3,none⟩=some (.int .i64 f.e.i)/\w'.cell? ⟨V.heap.size,4,none⟩=some (.string f.e.s)/\w'.cell? ⟨V.heap.size,5,none⟩=some (.slice ea f.e.l.length ec)) (by kernel_rfl) (by exact⟨k0,z2,z3,z4,z5⟩) (fun hHeld=>?_);refine tkH 0 rfl ?_;try simp only [ptH]
     refine tkH 1 rfl ?_;try simp only [ptH]
     refine tkH 2 rfl ?_;try simp only [ptH]
     refine tkH 3 rfl ?_;try simp only [ptH]
     refine tkH 4 rfl ?_;try simp only [ptH]
     refine tkH 5 rfl ?_;try simp only [ptH]
     refine rdH [6] ?_;refine alH rfl fun K0 hK=>?_
     go_simp
     refine (cV.out _ HD1.out.drew).mono ?_;rintro ee W2 ⟨b2,u,rfl,hin⟩;have b2:Below W1.heap.size W1 W2:=(Below.refl _ W1).drew.trans b2;have HD2:=hid (nx HD1.out b2);have HI2:=hid (isb_below HI1.out b2);have HBs2:=hid (HBs1.out.below b2);have HP2:=hid ((b2.block V.heap.size (by omega)).trans HP1.out);obtain⟨k0,-,-,-⟩:=wk_box HBs2.out.box;obtain⟨z0,z1,z2,z3,z4,z5⟩:=six_box HP2.out;have cTx:=cT.out W2 u c HD2.out hin
     have HSX:Hid (∀ x,txt c=.ok x->x.size<=140737488351232):=fun x hx=>txt_le hin.plain hx
     have hs2:=b2.size;obtain⟨an,ln,cn,al,ll,cl,rfl⟩:=in_shape hin
     have HU1:Hid (tpc L f.p f.b f.e=txt c):=HU0.out;generalize txt c=X at *
     clear b2 hin HU0;refine hK.out _ _ (by exact⟨k0,z2,z3,z4,z5⟩) (fun hHeld=>?_);clear hK K0;try simp only [ptH]
     refine rdH [7] ?_;refine alH rfl fun K0 hK=>?_
     go_simp
     refine cTx.mono ?_;intro ee W3 hA3;cases X with
     | error z=>
      obtain⟨rfl,b3⟩:=hA3;have hT:=HM.out;rw[tgo_bad HU1.out] at hT;have hT:=hT.symm;subst hT;exact⟨rfl,nx HD2.out b3,rfl⟩
     | ok s=>
      obtain⟨rfl,b3⟩:=hA3;have HU:=hid HU1.out;have HSZ:=hid (HSX.out s rfl);have HD3:=hid (nx HD2.out b3);have HI3:=hid (isb_below HI2.out b3);have HBs3:=hid (HBs2.out.below b3);have HP3:=hid ((b3.block V.heap.size (by omega)).trans HP2.out);obtain⟨k0,-,-,-⟩:=wk_box HBs3.out.box;obtain⟨z0,z1,z2,z3,z4,z5⟩:=six_box HP3.out;clear b3 cTx;refine hK.out _ _ (by exact⟨k0,z2,z3,z4,z5⟩) (fun hHeld=>?_);clear hK K0;try simp only [ptH]
      refine tkH 8 rfl ?_;try simp only [ptH]
      refine dnH ?_;clear hHeld;have cL:=Tryz.Builder_Len _ _ _ _ HI3.out;rw[cells_len] at cL;have hsl:=HSZ.out;have hw:IntKind.i64.wrap ((l.length:Int)+(s.size:Int))=(l.length:Int)+(s.size:Int):=by rw[IntKind.wrap_i64];omega
      go_wp2_with fail
      refine cL.mono ?_;rintro ee w' ⟨rfl,hw'⟩;subst w';by_cases hbig:4096<l.length+s.size
      ·have db:decide ((4096:Int)<(l.length:Int)+(s.size:Int))=true:=decide_eq_true (by omega)
       have hT:=HM.out;rw[tgo_big HU.out hbig] at hT;have hT:=hT.symm;subst hT;clear hbig;go_wp2_with fail
       exact⟨rfl,HD3.out,rfl⟩
      ·have db:decide ((4096:Int)<(l.length:Int)+(s.size:Int))=false:=decide_eq_false (by omega)
       have HM2:Hid (app (l ++ s.data.toList) (tgo L (ps.drop (q+1)) (l ++ s.data.toList).length)=T):=by
        show _=_;rw[<- HM.out,tgo_ok HU.out hbig]
       have hsz3:=HD3.out.size;have hgo:=HI3.out;have cW:=HBuild.text_c _ _ _ s _ HI3.out (by rw[cells_len];omega) (by omega);have hl2:(l ++ s.data.toList).length<=4096:=by
        rw[List.length_append];have:s.data.toList.length=s.size:=by rw[Array.length_toList];rfl
        omega
       clear hbig hgo;go_wp2_with fail
       refine cW.mono ?_;rintro ee W6 ⟨rfl,hI6,b6⟩;have HI6:Hid (Lib.IsBuilder 155 5 w.heap.size w.heap.size (Lib.byteCells (l ++ s.data.toList)) W6):=by
        show Lib.IsBuilder _ _ _ _ _ _;rw[cells_app];exact hI6
       have HD6:=hid (HD3.out.trans b6);clear hI6 b6 cW cL;go_wp2_with fail
       go_roundw
       case rel=>exact⟨q+1,l ++ s.data.toList,by go_num,by omega,hl2,HM2.out,HI6.out,HD6.out⟩
       case measure=>simp only [intOf];omega
  ·have d0:decide ((q:Int)<(ps.length:Int))=false:=by simp;omega
   have hT:T=.ok l:=by
    rw[<- hM,List.drop_eq_nil_of_le (by omega)];show Except.ok (l ++ [])=_;rw[List.append_nil]
   subst hT;have hsz:=hb.size;have cS:=Tryz.Builder_String_any _ _ l V hI (by omega);have HD:=hid hb;clear hM hb hI;go_wp2_with fail
   refine cS.mono ?_;rintro ee W2 ⟨rfl,b2⟩;have HD2:=hid (HD.out.trans b2);clear b2 cS;go_wp2_with fail
   go_ret
   exact⟨HD2.out,rfl⟩
end Go.Proofs.YtdolgmmldncfkaaGreatDoor.GTx
namespace Go.Proofs.YtdolgmmldncfkaaGreatDoor.GBu
open Go.RowKit TBase
open GEn (ptr)
section
variable {ops:Array Oper} {o:Oper} {y:Act} {K:Act->World->Prop} {Q:Exit->Act->World->Prop} {E:Prop} {w:World} {base n m c:Nat} {v:Value} {xs news:List Value} {ad:Addr}
theorem wp_tree (x z:Operand) (ho:o.op=.call { callee:=.builtin .append,args:=#[x,z],argTypes:=#[30,30] }) (hown:w.ownsRow base 47 4 v n xs) (hl:news.length=m*4) (hnews:∀ j u,news[j]? = some u->w.cell? (ad.add j)=some u) (h1:∀ u ∈ news,u.oneCell'=true) (hb:n+m<=100000) (hbase:base<=w.heap.size)
  (hx:y.eval x=v) (hz:y.eval z=.slice (some ad) m c) (hk:∀ v' W,W.ownsRow base 47 4 v' (n+m) (xs ++ news)->w.grownBy W v.ownBlock->(v'.ownBlock=v.ownBlock\/v'.ownBlock=some w.heap.size)->K (y.put o.dst v') W):o.wp prog y w K Q:=by
 obtain⟨ij,hij,hj0,hj1,hj2⟩:=XLend.info_parts infoT;obtain⟨v',W,hrun,h3,h4,-,h5⟩:=run_append_own_at (P:=prog) w base 30 o.type 47 ij _ 4 80 underlying30 hij hj0 hj1 hj2 rfl (by decide) v n xs hown ad m c news hl hnews h1 (by unfold maxLen;omega) (by omega) hbase;unfold Oper.wp execOp;simp only [ho, resolve, invoke, builtin, Sem.run_bind, Sem.run_pure, Result.andThen_ok, List.map_toArray, List.map_cons, List.map_nil, hx, hz, hrun];exact hk v' W h3 h4 h5
theorem step_tree (hgd:o.guard=none) (x z:Operand) (ho:o.op=.call { callee:=.builtin .append,args:=#[x,z],argTypes:=#[30,30] }) (hown:w.ownsRow base 47 4 v n xs) (hl:news.length=m*4) (hnews:∀ j u,news[j]? = some u->w.cell? (ad.add j)=some u) (h1:∀ u ∈ news,u.oneCell'=true) (hb:n+m<=100000) (hbase:base<=w.heap.size)
  (hx:y.eval x=v) (hz:y.eval z=.slice (some ad) m c) (hk:∀ v' W,W.ownsRow base 47 4 v' (n+m) (xs ++ news)->w.grownBy W v.ownBlock->(v'.ownBlock=v.ownBlock\/v'.ownBlock=some w.heap.size)->K (y.put o.dst v') W):if Region.wanted o (yielded ops y.tmps)=true then Oper.wp prog o y w K Q else E:=by
 have hw:Region.wanted o (yielded ops y.tmps)=true:=by simp [Region.wanted, hgd]
 rw[if_pos hw];exact wp_tree x z ho hown hl hnews h1 hb hbase hx hz hk
end
def Es (lo hi:Nat) (X:Option Nat) (tv:Value):Nat->Prop:=fun b=>lo<=b/\b<hi/\some b≠X/\tv.ownBlock≠some b
structure Bt (lo:Nat) (w:World) (Bb:Nat) (X:Option Nat) (tv:Value) (F:List T):Prop where
 box:w.heap[Bb]? = some (.cells #[tv] 57 (0,0))
 lob:Bb<lo
 hi:lo<=w.heap.size
 xne:∀ g,tv.ownBlock=some g->some g≠X
 own:∃ us,OwnV w lo tv us/\us.length=F.length/\∀ j (h:j<us.length) (h':j<F.length),∃ m,TBase.In false (Es lo w.heap.size X tv) w m us[j] F[j]
structure Kb (Bb:Nat) (tv:Value) (w w':World):Prop where
 below:∀ n,n<=Bb->Below n w w'
 size:w.heap.size<=w'.heap.size
 other:∀ b,b<w.heap.size->b≠Bb->some b≠tv.ownBlock->w'.heap[b]? = w.heap[b]?
theorem bt_shape {w:World} {lo:Nat} {tv:Value} {us:List Value} (h:OwnV w lo tv us):∃ a cap,tv=.slice a us.length cap/\us.length<=cap/\cap<=9223372036854775807:=by
 rcases h.1.2 with ⟨rfl,e⟩|⟨g,cap,cur,rfl,h2,h3,h4,h5,h6⟩
 ·exact⟨none,0,by rw[e],by omega,by omega⟩
 ·exact⟨_,cap,rfl,h4,by unfold maxLen at h5;omega⟩
theorem bt_more {lo:Nat} {w w9:World} {Bb:Nat} {X:Option Nat} {tv v' u:Value} {F:List T} {us:List Value} {t:T} (hlob:Bb<lo) (hhi:lo<=w.heap.size) (hxne:∀ g,tv.ownBlock=some g->some g≠X) (how:OwnV w lo tv us) (hus:us.length=F.length) (hel:∀ j (h:j<us.length) (h':j<F.length),∃ m,TBase.In false (Es lo w.heap.size X tv) w m us[j] F[j])
  (hk:∀ b,b<w.heap.size->some b≠tv.ownBlock->b≠Bb->w9.heap[b]? = w.heap[b]?) (hsz:w.heap.size<=w9.heap.size) (hown:OwnV w9 lo v' (us ++ [u])) (hin:∃ m,TBase.In false (Es lo w9.heap.size X v') w9 m u t)
  (hat:v'.ownBlock=tv.ownBlock \/ ∃ g,v'.ownBlock=some g/\w.heap.size<=g) (hX:∀ x,X=some x->x<w.heap.size) (hbox:w9.heap[Bb]? = some (.cells #[v'] 57 (0,0))):Bt lo w9 Bb X v' (F ++ [t]):=by
 refine⟨hbox,hlob,Nat.le_trans hhi hsz,?_,us ++ [u],hown,by simp [hus],?_⟩
 ·intro g hg e
  rcases hat with k|⟨g',k,hg'⟩
  ·exact hxne g (by rw[<- k];exact hg) e
  ·rw[k] at hg
   have:=Option.some.inj hg;have:=hX g e.symm;omega
 ·intro j h1 h2
  by_cases hj:j<us.length
  ·rw[List.getElem_append_left hj,List.getElem_append_left (by omega)]
   obtain⟨m,hi⟩:=hel j hj (by omega);refine⟨m,(hi.keep (w':=w9) (fun b hb hb2=>hk b hb2 (fun e=>hb.2.2.2 e.symm) (by have:=hb.1;omega))).weak ?_ false id m (Nat.le_refl _)⟩;intro b hb;refine⟨hb.1,by have:=hb.2.1;omega,hb.2.2.1,?_⟩;rcases hat with k|⟨g',k,hg'⟩
   ·rw[k];exact hb.2.2.2
   ·rw[k]
    intro e;have:=Option.some.inj e;have:=hb.2.1;omega
  ·have e:j=us.length:=by simp at h1;omega
   subst e;simp only [List.getElem_append_right (Nat.le_refl _), Nat.sub_self, List.getElem_cons_zero];rw[List.getElem_append_right (by omega)];simp only [hus, Nat.sub_self, List.getElem_cons_zero];exact hin
theorem four_set {w:World} {base g n cap:Nat} {xs:List Value} {a0 a1 a2 a3 b0 b1 b2 b3:Value} (h:w.ownsRow base 47 4 (.slice (some ⟨g,0,none⟩) (n+1) cap) (n+1) (xs ++ [a0,a1,a2,a3])) (hx:xs.length=n*4) :
  ((((w.setCell ⟨g,n*4,none⟩ b0).setCell ⟨g,n*4+1,none⟩ b1).setCell ⟨g,n*4+2,none⟩ b2).setCell ⟨g,n*4+3,none⟩ b3).ownsRow base 47 4 (.slice (some ⟨g,0,none⟩) (n+1) cap) (n+1) (xs ++ [b0,b1,b2,b3]):=by
 have h1:=(World.ownsRow.stored h (n*4) b0).1;have h2:=(World.ownsRow.stored h1 (n*4+1) b1).1;have h3:=(World.ownsRow.stored h2 (n*4+2) b2).1;have h4:=(World.ownsRow.stored h3 (n*4+3) b3).1;have e:((((xs ++ [a0,a1,a2,a3]).set (n*4) b0).set (n*4+1) b1).set (n*4+2) b2).set (n*4+3) b3=xs ++ [b0,b1,b2,b3]:=by
  rw[<- hx];simp []
 rw[e] at h4;exact h4
end Go.Proofs.YtdolgmmldncfkaaGreatDoor.GBu
namespace Go.Proofs.YtdolgmmldncfkaaGreatDoor.GBt
open Tak
open Go.RowKit TBase GBu
open GEn (ptr)
abbrev zt:List Value:=[.string ⟨#[]⟩,.string ⟨#[]⟩,.slice none 0 0,.slice none 0 0]
theorem set_comm (w:World) (a b:Addr) (u v:Value) (h:a.block≠b.block):(w.setCell a u).setCell b v=(w.setCell b v).setCell a u:=by
 unfold World.setCell;simp only;congr 1
 apply Array.ext
 ·simp
 ·intro i h1 h2
  simp only [Array.getElem_modify];by_cases e1:a.block=i
  ·have e2 : ¬ b.block=i:=fun e=>h (e1.trans e.symm)
   simp [e1, e2]
  ·simp [e1]
theorem row_cells {W:World} {lo g n cap:Nat} {xs:List Value} {z0 z1 z2 z3:Value} (h3:W.ownsRow lo 47 4 (.slice (some ⟨g,0,none⟩) (n+1) cap) (n+1) (xs ++ [z0,z1,z2,z3])) (hx:xs.length=n*4) :
  W.cell? ⟨g,n*4,none⟩=some z0/\W.cell? ⟨g,n*4+1,none⟩=some z1/\W.cell? ⟨g,n*4+2,none⟩=some z2/\W.cell? ⟨g,n*4+3,none⟩=some z3:=by
 refine⟨?_,?_,?_,?_⟩;all_goals rw[World.ownsRow.cellAt h3 _ (by omega),<- hx]
 all_goals simp
theorem in_text {S:Nat->Prop} {w:World} {s:ByteArray} (hs:s.size<=140737488351232):TBase.In false S w 1 (.agg #[.string ⟨#[]⟩,.string s,.slice none 0 0,.slice none 0 0]) (T.mk ⟨#[]⟩ s [] []):=by
 rw[in_iff];exact⟨_,_,rfl,by simp [ByteArray.size],hs,⟨none,0,rfl,by simp,by omega,by simp,by simp,fun _=>rfl,.inl ⟨rfl,rfl⟩⟩,none,0,rfl,by simp,by omega,by simp,fun _=>rfl,.inl ⟨rfl,rfl⟩⟩
theorem tree_on {lo:Nat} {w W1 W W5 W6:World} {Bb g cap:Nat} {X:Option Nat} {tv bv z0 z1 z2 z3 x0 x1 x2 x3:Value} {F:List T} {us:List Value} {t:T} (hlob:Bb<lo) (hhi:lo<=w.heap.size) (hxne:∀ g,tv.ownBlock=some g->some g≠X) (how:OwnV w lo tv us) (hus:us.length=F.length) (hel:∀ j (h:j<us.length) (h':j<F.length),∃ m,TBase.In false (Es lo w.heap.size X tv) w m us[j] F[j])
  (hX:∀ x,X=some x->x<w.heap.size) (hbv:w.heap[Bb]? = some (.cells #[bv] 57 (0,0))) (b1:Below w.heap.size w W1) (h3:W.ownsRow lo 47 4 (.slice (some ⟨g,0,none⟩) (us.length+1) cap) (us.length+1) (flat us ++ [z0,z1,z2,z3])) (h4:W1.grownBy W tv.ownBlock) (h5:some g=tv.ownBlock\/g=W1.heap.size) (hone:∀ x ∈ [x0,x1,x2,x3],x.oneCell'=true)
  (hW5:(((W.setCell ⟨g,us.length*4,none⟩ x0).setCell ⟨g,us.length*4+1,none⟩ x1).setCell ⟨g,us.length*4+2,none⟩ x2).setCell ⟨g,us.length*4+3,none⟩ x3=W5) (hW6:W5.setCell ⟨Bb,0,none⟩ (.slice (some ⟨g,0,none⟩) (us.length+1) cap)=W6) (hin:∃ m,TBase.In false (Es lo w.heap.size X tv) w m (.agg #[x0,x1,x2,x3]) t) :
  Bt lo W6 Bb X (.slice (some ⟨g,0,none⟩) (us.length+1) cap) (F ++ [t])/\Kb Bb tv w W6/\(some g=tv.ownBlock\/w.heap.size<=g):=by
 have hglt:=World.ownsRow.lt h3 g rfl;have hs1:=b1.size;have hs4:=h4.size;have h6:=four_set h3 (by rw[flat_len how.2]) (b0:=x0) (b1:=x1) (b2:=x2) (b3:=x3);rw[hW5] at h6;have hne:Bb≠g:=by omega
 have h5o:∀ b,b≠g->W5.heap[b]? = W.heap[b]?:=by
  intro b hb;rw[<- hW5,Below.heap_setCell _ _ _ _ (by simpa using hb),Below.heap_setCell _ _ _ _ (by simpa using hb),Below.heap_setCell _ _ _ _ (by simpa using hb),Below.heap_setCell _ _ _ _ (by simpa using hb)]
 have h6o:∀ b,b≠Bb->W6.heap[b]? = W5.heap[b]?:=by
  intro b hb;rw[<- hW6,Below.heap_setCell _ _ _ _ (by simpa using hb)]
 have s5:W5.heap.size=W.heap.size:=by rw[<- hW5];simp
 have s6:W6.heap.size=W.heap.size:=by rw[<- hW6,World.size_setCell,s5]
 have hoth:∀ b,b<w.heap.size->some b≠tv.ownBlock->b≠Bb->W6.heap[b]? = w.heap[b]?:=by
  intro b hb h1 h2;have hbg:b≠g:=by
   rcases h5 with e|e
   ·intro e';subst e';exact h1 e
   ·omega
  rw[h6o b h2,h5o b hbg,h4.block b (by omega) h1,b1.block b hb]
 have hat:some g=tv.ownBlock\/w.heap.size<=g:=by
  rcases h5 with e|e
  ·exact .inl e
  ·exact .inr (by omega)
 have hown:OwnV W6 lo (.slice (some ⟨g,0,none⟩) (us.length+1) cap) (us ++ [.agg #[x0,x1,x2,x3]]):=by
  refine⟨?_,fours_snoc how.2 ⟨_,_,_,_,rfl,hone⟩⟩;rw[flat_append,List.length_append];exact Fresh.own_keep h6 fun q hq=>h6o q (by have:=(World.ownsRow.lt h6 q hq).1;omega)
 have hbox:W6.heap[Bb]? = some (.cells #[.slice (some ⟨g,0,none⟩) (us.length+1) cap] 57 (0,0)):=by
  have e5:W5.heap[Bb]? = some (.cells #[bv] 57 (0,0)):=by
   rw[h5o Bb hne,h4.block Bb (by omega) (fun e=>by have:=(World.ownsRow.lt how.1 Bb e.symm).1;omega),b1.block Bb (by omega),hbv]
  rw[<- hW6];exact TBase.block_set e5 _
 refine⟨bt_more hlob hhi hxne how hus hel hoth (by omega) hown ?_ ?_ hX hbox,⟨fun n hn=>?_,by omega,fun b h1 h2 h3=>hoth b h1 h3 h2⟩,hat⟩
 ·obtain⟨m,hi⟩:=hin
  refine⟨m,(hi.keep (w':=W6) (fun b hb hb2=>hoth b hb2 (fun e=>hb.2.2.2 e.symm) (by have:=hb.1;omega))).weak ?_ false id m (Nat.le_refl _)⟩;intro b hb;refine⟨hb.1,by have:=hb.2.1;omega,hb.2.2.1,?_⟩;intro e;have e:=Option.some.inj e;subst e;rcases hat with k|k
  ·exact hb.2.2.2 k.symm
  ·exact absurd hb.2.1 (Nat.not_lt.2 k)
 ·rcases hat with k|k
  ·exact .inl k
  ·exact .inr ⟨g,rfl,k⟩
 ·have hb:Below n w W:=(b1.mono (by omega)).grown h4 (by omega) (fun k hk=>by have:=(World.ownsRow.lt how.1 k hk).1;omega)
  rw[<- hW6,<- hW5];exact ((((hb.setCell (by simp;omega) _).setCell (by simp;omega) _).setCell (by simp;omega) _).setCell (by simp;omega) _).setCell (by simp;omega) _
/-! the walk -/
theorem btext_c {lo:Nat} {w:World} {Bb:Nat} {X:Option Nat} {tv:Value} {F:List T} {num:Int} {s:ByteArray} (h:Bt lo w Bb X tv F) (hX:∀ x,X=some x->x<w.heap.size) (hF:F.length<=65536) (hs:s.size<=140737488351232) :
  Calls prog 202 #[ptr Bb,.int .i64 num,.string s] w fun e w'=>(∃ v,e=.returned v)/\∃ tv',Bt lo w' Bb X tv' (F ++ [T.mk ⟨#[]⟩ s [] []])/\Kb Bb tv w w'/\(tv'.ownBlock=tv.ownBlock \/ ∃ g,tv'.ownBlock=some g/\w.heap.size<=g):=by
 obtain⟨us,how,hus,hel⟩:=h.own;obtain⟨a,cap,rfl,hc1,hc2⟩:=bt_shape how;have k0:w.cell? ⟨Bb,0,none⟩=some (.slice a us.length cap):=by simp [World.cell?, h.box]
 obtain⟨W1,hW1⟩ : ∃ W,(w.drew).alloc (.cells #[.string ⟨#[]⟩,.string ⟨#[]⟩,.slice none 0 0,.slice none 0 0] 47)=W:=⟨_,rfl⟩;have b1:Below w.heap.size w W1:=by rw[<- hW1];exact ((Below.refl _ w).drew).alloc (by simp) _
 have hs1:W1.heap.size=w.heap.size+1:=by rw[<- hW1];simp
 have hlo:=h.hi;have HO1:=hid (TBase.own_below how.1 b1);have HW:=hid how;have HE:=hid hel;have HU:=hid hus;have HH:=hid h;have hul:us.length<=65536:=by omega
 have HB1:=hid b1;have HN1:Hid (∀ j u,zt[j]? = some u->W1.cell? ((⟨w.heap.size,0,none⟩ : Addr).add j)=some u):=by
  rw[<- hW1];exact new_cells w.drew zt 47
 have hz:∀ u ∈ zt,u.oneCell'=true:=by simp [Value.oneCell', zt]
 have HZ:=hid hz;clear hz;have hlt:=(Array.getElem?_eq_some_iff.1 h.box).1;have k1:=(World.cell?_of_block (w:=w) (b1.block Bb hlt)).trans k0;clear how hel hus h b1 hF;go_enter func202,ntmps202;go_wp2_with fail
 refine wp_region_held_drew (S:=fun _=>True) (by kernel_rfl) (by trivial) (fun hHeld=>?_);refine tkH 0 rfl ?_;try simp only [ptH]
 refine tkH 1 rfl ?_;try simp only [ptH]
 refine tkH 2 rfl ?_;try simp only [ptH]
 refine tkH 4 rfl ?_;try simp only [ptH]
 refine tkH 5 rfl ?_;try simp only [ptH]
 refine rdH [3,7] ?_;refine AllReadyH.cons rfl (fun K0 hK=>?_) (AllReadyH.cons rfl (fun K0 hK=>?_) (AllReadyH.nil))
 ·go_simp
  refine hK.out _ _ (by trivial) (fun hHeld=>?_);clear hK K0;try simp only [ptH]
  refine tkH 6 rfl ?_;try simp only [ptH]
  refine rdH [7] ?_;refine alH rfl fun K0 hK=>?_
  go_simp
  try rw[hW1]
  refine hK.out _ _ (by trivial) (fun hHeld=>?_);clear hK K0;try simp only [ptH]
  refine rdH [8] ?_;refine alH rfl fun K0 hK=>?_
  refine step_tree (news:=zt) (m:=1) (n:=us.length) rfl _ _ rfl HO1.out rfl HN1.out HZ.out (by omega) (by omega) rfl rfl (fun v' W h3 h4 h5=>?_);obtain⟨g,cap2,rfl⟩ : ∃ g cap2,v'=.slice (some ⟨g,0,none⟩) (us.length+1) cap2:=by
   rcases h3.2 with ⟨_,e⟩|⟨g,cap2,cur,e,_⟩
   ·omega
   ·exact⟨g,cap2,e⟩
  obtain⟨c0,c1,c2,c3⟩:=row_cells h3 (flat_len HW.out.2);have f0:=World.ownsRow.frozenAt h3 (us.length*4);have f1:=World.ownsRow.frozenAt h3 (us.length*4+1);have f2:=World.ownsRow.frozenAt h3 (us.length*4+2);have f3:=World.ownsRow.frozenAt h3 (us.length*4+3);have hbW:W.heap[Bb]? = some (.cells #[.slice a us.length cap] 57 (0,0)):=by
   rw[h4.block Bb (by omega) (fun e=>by have:=(World.ownsRow.lt HO1.out Bb e.symm).1;have:=HH.out.lob;omega),HB1.out.block Bb hlt,HH.out.box]
  have kW:W.cell? ⟨Bb,0,none⟩=some (.slice a us.length cap):=by simp [World.cell?, hbW]
  have fW:=TBase.frozen_box hbW 0;clear hbW;have hgB:Bb≠g:=by have:=(World.ownsRow.lt h3 g rfl).1;have:=HH.out.lob;omega
  have H3:=hid h3;have H4:=hid h4;have H5:=hid h5;clear h3 h4 h5;refine hK.out _ _ (by trivial) (fun hHeld=>?_);clear hK K0;try simp only [ptH]
  refine wpAnyH_take (i:=9) (v:=?_) rfl (by kernel_rfl) (by kernel_rfl) (by kernel_rfl) (fun _ _ _ h=>h) (Or.inl ⟨by rfl,?_⟩) (by assumption) ?_;rotate_left 1
  ·intro w hSw;(try dsimp only at hSw);go_simp;first | done | with_reducible rfl | (rw[if_pos (by omega)])
  try simp only [ptH]
  refine wpAnyH_take (i:=11) (v:=?_) rfl (by kernel_rfl) (by kernel_rfl) (by kernel_rfl) (fun _ _ _ h=>h) (Or.inl ⟨by rfl,?_⟩) (by assumption) ?_;rotate_left 1
  ·intro w hSw;(try dsimp only at hSw);go_simp;first | done | with_reducible rfl | (rw[if_pos (by omega)])
  try simp only [ptH]
  refine wpAnyH_take (i:=12) (v:=?_) rfl (by kernel_rfl) (by kernel_rfl) (by kernel_rfl) (fun _ _ _ h=>h) (Or.inl ⟨by rfl,?_⟩) (by assumption) ?_;rotate_left 1
  ·intro w hSw;(try dsimp only at hSw);go_simp;first | done | with_reducible rfl | (rw[if_pos (by omega)])
  try simp only [ptH]
  refine rdH [10,13] ?_;refine AllReadyH.cons rfl (fun K0 hK=>?_) (AllReadyH.cons rfl (fun K0 hK=>?_) (AllReadyH.nil))
  ·go_simp
   refine hK.out _ _ (by trivial) (fun hHeld=>?_);clear hK K0;try simp only [ptH]
   refine rdH [13] ?_;refine alH rfl fun K0 hK=>?_
   go_simp
   refine hK.out _ _ (by trivial) (fun hHeld=>?_);clear hK K0;try simp only [ptH]
   refine dnH ?_;go_wp2_with fail
   go_end0
   refine⟨⟨_,rfl⟩,.slice (some ⟨g,0,none⟩) (us.length+1) cap2,?_⟩;obtain⟨r1,r2,r3⟩:=tree_on HH.out.lob hlo HH.out.xne HW.out HU.out HE.out hX HH.out.box HB1.out H3.out H4.out (H5.out.imp (fun e=>e) (fun e=>Option.some.inj e)) (x0:=.string ⟨#[]⟩) (x1:=.string s) (x2:=.slice none 0 0) (x3:=.slice none 0 0) (by simp [Value.oneCell']) rfl rfl ⟨1,in_text hs⟩;refine⟨r1,r2,?_⟩;rcases r3 with e|e
   ·exact .inl e
   ·exact .inr ⟨g,rfl,e⟩
  ·go_simp
   refine hK.out _ _ (by trivial) (fun hHeld=>?_);clear hK K0;try simp only [ptH]
   refine rdH [10] ?_;refine alH rfl fun K0 hK=>?_
   go_simp
   refine hK.out _ _ (by trivial) (fun hHeld=>?_);clear hK K0;try simp only [ptH]
   refine dnH ?_;go_wp2_with fail
   go_end0
   refine⟨⟨_,rfl⟩,.slice (some ⟨g,0,none⟩) (us.length+1) cap2,?_⟩;rw[set_comm _ ⟨Bb,0,none⟩ ⟨g,us.length*4,none⟩ _ _ hgB,set_comm _ ⟨Bb,0,none⟩ ⟨g,us.length*4+1,none⟩ _ _ hgB,set_comm _ ⟨Bb,0,none⟩ ⟨g,us.length*4+2,none⟩ _ _ hgB,set_comm _ ⟨Bb,0,none⟩ ⟨g,us.length*4+3,none⟩ _ _ hgB];obtain⟨r1,r2,r3⟩:=tree_on HH.out.lob hlo HH.out.xne HW.out HU.out HE.out hX HH.out.box HB1.out H3.out H4.out (H5.out.imp (fun e=>e) (fun e=>Option.some.inj e)) (x0:=.string ⟨#[]⟩) (x1:=.string s) (x2:=.slice none 0 0) (x3:=.slice none 0 0) (by simp [Value.oneCell']) rfl rfl ⟨1,in_text hs⟩;refine⟨r1,r2,?_⟩;rcases r3 with e|e
   ·exact .inl e
   ·exact .inr ⟨g,rfl,e⟩
 ·go_simp
  try rw[hW1]
  refine hK.out _ _ (by trivial) (fun hHeld=>?_);clear hK K0;try simp only [ptH]
  refine rdH [3] ?_;refine alH rfl fun K0 hK=>?_
  go_simp
  refine hK.out _ _ (by trivial) (fun hHeld=>?_);clear hK K0;try simp only [ptH]
  refine tkH 6 rfl ?_;try simp only [ptH]
  refine rdH [8] ?_;refine alH rfl fun K0 hK=>?_
  refine step_tree (news:=zt) (m:=1) (n:=us.length) rfl _ _ rfl HO1.out rfl HN1.out HZ.out (by omega) (by omega) rfl rfl (fun v' W h3 h4 h5=>?_);obtain⟨g,cap2,rfl⟩ : ∃ g cap2,v'=.slice (some ⟨g,0,none⟩) (us.length+1) cap2:=by
   rcases h3.2 with ⟨_,e⟩|⟨g,cap2,cur,e,_⟩
   ·omega
   ·exact⟨g,cap2,e⟩
  obtain⟨c0,c1,c2,c3⟩:=row_cells h3 (flat_len HW.out.2);have f0:=World.ownsRow.frozenAt h3 (us.length*4);have f1:=World.ownsRow.frozenAt h3 (us.length*4+1);have f2:=World.ownsRow.frozenAt h3 (us.length*4+2);have f3:=World.ownsRow.frozenAt h3 (us.length*4+3);have hbW:W.heap[Bb]? = some (.cells #[.slice a us.length cap] 57 (0,0)):=by
   rw[h4.block Bb (by omega) (fun e=>by have:=(World.ownsRow.lt HO1.out Bb e.symm).1;have:=HH.out.lob;omega),HB1.out.block Bb hlt,HH.out.box]
  have kW:W.cell? ⟨Bb,0,none⟩=some (.slice a us.length cap):=by simp [World.cell?, hbW]
  have fW:=TBase.frozen_box hbW 0;clear hbW;have hgB:Bb≠g:=by have:=(World.ownsRow.lt h3 g rfl).1;have:=HH.out.lob;omega
  have H3:=hid h3;have H4:=hid h4;have H5:=hid h5;clear h3 h4 h5;refine hK.out _ _ (by trivial) (fun hHeld=>?_);clear hK K0;try simp only [ptH]
  refine wpAnyH_take (i:=9) (v:=?_) rfl (by kernel_rfl) (by kernel_rfl) (by kernel_rfl) (fun _ _ _ h=>h) (Or.inl ⟨by rfl,?_⟩) (by assumption) ?_;rotate_left 1
  ·intro w hSw;(try dsimp only at hSw);go_simp;first | done | with_reducible rfl | (rw[if_pos (by omega)])
  try simp only [ptH]
  refine wpAnyH_take (i:=11) (v:=?_) rfl (by kernel_rfl) (by kernel_rfl) (by kernel_rfl) (fun _ _ _ h=>h) (Or.inl ⟨by rfl,?_⟩) (by assumption) ?_;rotate_left 1
  ·intro w hSw;(try dsimp only at hSw);go_simp;first | done | with_reducible rfl | (rw[if_pos (by omega)])
  try simp only [ptH]
  refine wpAnyH_take (i:=12) (v:=?_) rfl (by kernel_rfl) (by kernel_rfl) (by kernel_rfl) (fun _ _ _ h=>h) (Or.inl ⟨by rfl,?_⟩) (by assumption) ?_;rotate_left 1
  ·intro w hSw;(try dsimp only at hSw);go_simp;first | done | with_reducible rfl | (rw[if_pos (by omega)])
  try simp only [ptH]
  refine rdH [10,13] ?_;refine AllReadyH.cons rfl (fun K0 hK=>?_) (AllReadyH.cons rfl (fun K0 hK=>?_) (AllReadyH.nil))
  ·go_simp
   refine hK.out _ _ (by trivial) (fun hHeld=>?_);clear hK K0;try simp only [ptH]
   refine rdH [13] ?_;refine alH rfl fun K0 hK=>?_
   go_simp
   refine hK.out _ _ (by trivial) (fun hHeld=>?_);clear hK K0;try simp only [ptH]
   refine dnH ?_;go_wp2_with fail
   go_end0
   refine⟨⟨_,rfl⟩,.slice (some ⟨g,0,none⟩) (us.length+1) cap2,?_⟩;obtain⟨r1,r2,r3⟩:=tree_on HH.out.lob hlo HH.out.xne HW.out HU.out HE.out hX HH.out.box HB1.out H3.out H4.out (H5.out.imp (fun e=>e) (fun e=>Option.some.inj e)) (x0:=.string ⟨#[]⟩) (x1:=.string s) (x2:=.slice none 0 0) (x3:=.slice none 0 0) (by simp [Value.oneCell']) rfl rfl ⟨1,in_text hs⟩;refine⟨r1,r2,?_⟩;rcases r3 with e|e
   ·exact .inl e
   ·exact .inr ⟨g,rfl,e⟩
  ·go_simp
   refine hK.out _ _ (by trivial) (fun hHeld=>?_);clear hK K0;try simp only [ptH]
   refine rdH [10] ?_;refine alH rfl fun K0 hK=>?_
   go_simp
   refine hK.out _ _ (by trivial) (fun hHeld=>?_);clear hK K0;try simp only [ptH]
   refine dnH ?_;go_wp2_with fail
   go_end0
   refine⟨⟨_,rfl⟩,.slice (some ⟨g,0,none⟩) (us.length+1) cap2,?_⟩;rw[set_comm _ ⟨Bb,0,none⟩ ⟨g,us.length*4,none⟩ _ _ hgB,set_comm _ ⟨Bb,0,none⟩ ⟨g,us.length*4+1,none⟩ _ _ hgB,set_comm _ ⟨Bb,0,none⟩ ⟨g,us.length*4+2,none⟩ _ _ hgB,set_comm _ ⟨Bb,0,none⟩ ⟨g,us.length*4+3,none⟩ _ _ hgB];obtain⟨r1,r2,r3⟩:=tree_on HH.out.lob hlo HH.out.xne HW.out HU.out HE.out hX HH.out.box HB1.out H3.out H4.out (H5.out.imp (fun e=>e) (fun e=>Option.some.inj e)) (x0:=.string ⟨#[]⟩) (x1:=.string s) (x2:=.slice none 0 0) (x3:=.slice none 0 0) (by simp [Value.oneCell']) rfl rfl ⟨1,in_text hs⟩;refine⟨r1,r2,?_⟩;rcases r3 with e|e
   ·exact .inl e
   ·exact .inr ⟨g,rfl,e⟩
end Go.Proofs.YtdolgmmldncfkaaGreatDoor.GBt

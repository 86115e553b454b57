import Derived.Test.YtdolgmmldncfkaaGreatDoorPJ04
import Derived.Test.YtdolgmmldncfkaaGreatDoorPJ32
import Derived.Test.YtdolgmmldncfkaaGreatDoorPJ41
open Go.Proofs.Tryz
set_option linter.unusedVariables false
set_option maxRecDepth 20000
set_option maxHeartbeats 6400000
namespace Go.Proofs.YtdolgmmldncfkaaGreatDoor.GN4
open Go.RowKit Base EPure JPure GPl GEn GBu GNs GNo GRn GNg GN2 GKy GLk
open VPure hiding evL
open GTr (isL isK)
open TBase (T)
open KBase (Pt Fld Co RP RF)
open KVp (szL szL_cons szL_nil)
theorem lr_from {R:Int->World->Option Nat->Prop} {lo B Bb:Nat} {X:Option Nat} {tv:Value} {F:List T} {w W0:World} {A:Except Nat (List T × Int)} {e:Ending} {w':World} (hb:Below w.heap.size w W0) (hB:B<w.heap.size) (h:LR R lo B Bb X tv F W0 A e w'):LR R lo B Bb X tv F w A e w':=by
 have hs:=hb.size;cases A with
 | error q=>exact⟨h.1,fm_trans (fm_below hb hB) h.2 (.inl rfl) (.inl rfl) hB⟩
 | ok a=>
  obtain⟨h1,h2,X',tv',h3,h4,h5,h6,h7⟩:=h;exact⟨h1,fm_trans (fm_below hb hB) h2 (.inl rfl) (.inl rfl) hB,X',tv',h3.imp (fun e=>e) (fun ⟨x,e,hx⟩=>⟨x,e,by omega⟩),h4,h5,h6,h7.imp (fun e=>e) (fun ⟨x,e,hx⟩=>⟨x,e,by omega⟩)⟩
theorem node4 {K m lo:Nat} {w:World} {B Bb:Nat} {Pv tv fv pv xv lv uv:Value} {sv:Sz} {r num:Int} {t:ByteArray} {L:List C} {F:List T} {A:Except Nat (List T × Int)} (h:Wr K m w B Bb Pv sv r L) (hb:Bt lo w Bb Pv.ownBlock tv F)
  (hc:∀ W0,Below w.heap.size w W0->Calls prog 79 #[ptr B,.agg #[.int .i64 4,.string t,fv,pv,xv,lv,uv],.int .i64 num] W0 fun e w'=>LR (Rs K m B Bb sv L) lo B Bb Pv.ownBlock tv F W0 A e w') :
  Calls prog 54 #[ptr B,.agg #[.int .i64 4,.string t,fv,pv,xv,lv,uv],.int .i64 num] w fun e w'=>LR (Rs K m B Bb sv L) lo B Bb Pv.ownBlock tv F w A e w':=by
 have hBw:=h.lt;obtain⟨W0,hW0,s0,b0,g1,g2,g3⟩:=boxes3 w #[ptr B] #[.int .i64 4,.string t,fv,pv,xv,lv,uv] #[.int .i64 num] 112 42 3;have q0:=one_b g1;obtain⟨d0,d1,d2,d3,d4,d5,d6⟩:=seven_b g2;have n0:=one_b g3;have cL:=hc W0 b0;have HB0:=hid b0;clear h hb hc b0 g1 g2 g3 s0;cases A with
 | error z=>
  go_enter func54,ntmps54;go_wp2_with fail
  try rw[hW0]
  refine cL.mono ?_;rintro e W1 ⟨rfl,hf⟩;exact⟨rfl,lr_from (A:=.error z) HB0.out hBw ⟨rfl,hf⟩⟩
 | ok a=>
  go_enter func54,ntmps54;go_wp2_with fail
  try rw[hW0]
  refine cL.mono ?_;rintro e W1 ⟨⟨v1,rfl⟩,hrest⟩;have HR:=hid hrest;clear hrest cL q0 d0 d1 d2 d3 d4 d5 d6 n0;go_wp2_with fail
  go_end0
  exact lr_from (A:=.ok a) HB0.out hBw ⟨⟨_,rfl⟩,HR.out⟩
theorem loop_d {K m B Bb:Nat} {sv:Sz} {n:Nat} {L:List C} {c:Co} {y0 y1:Ex} {ys:List Ex} (hZ:sv.2.1.length<=50000) (hk:c.k=4) (hxs:c.x=y0 :: y1 :: ys) (hg0:gd y0/\ops JVa.okOp y0) (hg1:gd y1/\ops JVa.okOp y1) (hval:∀ l,bnd (ev (rh L) y0) isL=.ok l->l.length<=90000/\∀ c ∈ l,wf c) (hL2:L.length+2<=100000) (h0:0<L.length)
  (hd:∀ l q (hq:q<l.length),bnd (ev (rh L) y0) isL=.ok l->∀ d ∈ c.l,NDs K m B Bb sv n (L ++ [l[q],iV q]) d):NDs K m B Bb sv (n+1) L c:=by
 intro W Pv x F tv u num mc lo hin ha hw hb hBlo hzl hF hx;obtain⟨mc',fv,pv,xv,lv,uv,-,rfl,-,-,hF1,hP1,⟨nx,hX1⟩,hL1,hU1⟩:=hin.shape;have e:rn (n+1) L c x=bnd (bnd (ev (rh L) y0) isL) fun l=>bnd (kys L y1 l 0 []) fun _=>lp (fun i v x=>rnL (rn n (L ++ [v,iV i])) c.l x []) l 0 x []:=by
  rw[rn,if_neg (by omega),if_neg (by omega),if_neg (by omega),if_pos hk];have e0:x0 c=y0:=by unfold x0;rw[hxs];rfl
  have e1:x1 c=y1:=by unfold x1;rw[hxs];rfl
  rw[e0,e1]
 rw[e,hk];have hak:=(ha.kids (q:=0) (by simp)).1;simp only [List.take_zero, szL_nil, Nat.add_zero, List.getElem_cons_zero] at hak;have hal:=ha.len;refine node4 hw hb (fun W0 hb0=>?_);have hbl:=(Array.getElem?_eq_some_iff.1 hb.box).1;refine GLo.loop_c (hw.below hb0) (bt_keep hb hb0.size (hb0.block Bb hbl) (fun b _ h2 _=>hb0.block b h2)) hBlo hF hx (hX1.keep (w':=W0) (fun b hb _=>hb0.block b (by have:=hw.lt;have:=hw.lB;have:b<K:=hb;omega))) hxs hg0 hg1 hval hL2 h0 (by omega) (fun q v x a hx ha=>?_) (fun l q hq hl W' Pv' x' F' tv' hw' hbt' hK hFx hx'=>?_)
 ·have:=rnL_le (fun c x a hx ha=>rn_le n (L ++ [v,iV q]) c x a hx ha) c.l x [] a hx ha
  simpa using this
 ·have bK:Below K W W':=(hb0.mono (by have:=hw.lt;have:=hw.lB;omega)).trans hK
  exact nodes_c (hd l q hq hl) hZ (hL1.keep (w':=W') (fun b hb _=>bK.block b hb)) hak hw' hbt' hBlo hzl hFx hx'
end Go.Proofs.YtdolgmmldncfkaaGreatDoor.GN4
namespace Go.Proofs.YtdolgmmldncfkaaGreatDoor.GCh
open Tak
open Go.RowKit Base EPure JPure VSm GPl GEn GBu GNs GNo GZp GNg GKy GN4
open VPure hiding evL
open TBase (T)
open KBase (Co)
open KVp (szL szL_cons szL_nil)
theorem choose_c {K m lo n num kn:Nat} {w:World} {B Bb:Nat} {Pv tv fv pv xv uv:Value} {la:Option Addr} {lc:Nat} {sv:Sz} {r:Int} {t:ByteArray} {L:List C} {F:List T} {xs:List Ex} {y0:Ex} {ys:List Ex} {cs:List Co} {Al Au:Except Nat (List T × Int)} (h:Wr K m w B Bb Pv sv r L) (hb:Bt lo w Bb Pv.ownBlock tv F)
  (hx:XBase.InL false (fun b=>b<K) w n xv xs) (hxs:xs=y0 :: ys) (hg0:gd y0/\ops JVa.okOp y0) (hnum:num<=60000) (ha:Ats sv.2.1 (num+1) cs) (hZ:sv.2.1.length<=50000) (hcl:cs.length<=140737488351232)
  (hNl:∀ W',Below w.heap.size w W'->Calls prog 35 #[ptr B,.slice la cs.length lc,.int .i64 ((num+1:Nat):Int)] W' fun e w'=>LR (Rs K m B Bb sv L) lo B Bb Pv.ownBlock tv F W' Al e w')
  (hNu:∀ W',Below w.heap.size w W'->Calls prog 35 #[ptr B,uv,.int .i64 ((num+1+szL cs:Nat):Int)] W' fun e w'=>LR (Rs K m B Bb sv L) lo B Bb Pv.ownBlock tv F W' Au e w') :
  Calls prog 78 #[ptr B,.agg #[.int .i64 3,.string t,fv,pv,xv,.slice la cs.length lc,uv],.int .i64 num] w fun e w'=>LR (Rs K m B Bb sv L) lo B Bb Pv.ownBlock tv F w (bnd (bnd (ev (rh L) y0) isT) fun b=>if b=true then Al else Au) e w':=by
 have hBw:=h.lt;have hKB:=h.lB;obtain⟨xa,xc,rfl,hxc1,hxc2,-,-,hXL⟩:=hx;obtain⟨xg,xo,u0,rfl,hxg,hu0,hi0⟩:=XBase.elem_at hXL (q:=0) (by rw[hxs];simp);have hxl:1<=xs.length:=by rw[hxs];simp
 have hy0:xs[0]'(by omega)=y0:=by simp [hxs]
 rw[hy0] at hi0;obtain⟨n0,xl0,rfl,rfl,-⟩:=hi0.shape;obtain⟨v0,v1,v2,v3,he,c0,c1,c2,c3⟩:=hu0;simp only [Value.agg.injEq, Array.mk.injEq, List.cons.injEq, and_true] at he;obtain⟨rfl,rfl,rfl,rfl⟩:=he;simp only [Nat.zero_mul, Nat.add_zero] at c0 c1 c2 c3;have hxgw:xg<w.heap.size:=by have:xg<K:=hxg;omega
 obtain⟨W0,hW0⟩ : ∃ W,w.alloc (.cells #[.int .i64 3,.string t,fv,pv,.slice (some ⟨xg,xo,none⟩) xs.length xc,.slice la cs.length lc,uv] 42)=W:=⟨_,rfl⟩;have b0:=alB hW0;have s0:=alS hW0;have g2:=alG hW0;have HXC:Hid (∀ W:World,W.heap[xg]? = w.heap[xg]?->W.cell? ⟨xg,xo,none⟩=some (.int .i64 y0.o)/\W.cell? ⟨xg,xo+1,none⟩=some (.int .i64 y0.i)/\W.cell? ⟨xg,xo+2,none⟩=some (.string y0.s)/\W.cell? ⟨xg,xo+3,none⟩=some xl0):=fun W e=>⟨(World.cell?_of_block (w:=w) e).trans c0,(World.cell?_of_block (w:=w) e).trans c1,(World.cell?_of_block (w:=w) e).trans c2,(World.cell?_of_block (w:=w) e).trans c3⟩
 have hw0:=h.below b0;obtain⟨U,hU⟩ : ∃ U,bnd (ev (rh L) y0) isT=U:=⟨_,rfl⟩;have cT:Hid (Calls prog 116 #[Pv,.agg #[.int .i64 y0.o,.int .i64 y0.i,.string y0.s,xl0]] W0.drew fun e w'=>An W0.drew w' e Value.bool U):=by
  rw[<- hU];exact GTr.truth_c ((hw0.below ((Below.refl _ W0).drew)).bs.rk (hi0.keep (w':=W0.drew) (fun b hb _=>b0.drew.block b (by have:b<K:=hb;omega))) hg0.1 hg0.2)
 rw[hU];have HH:=hid h;have HNL:=hid hNl;have HNU:=hid hNu;have HA:=hid ha;obtain⟨pb,-,-,-⟩:=wk_box hw0.box;obtain⟨-,-,-,-,px,q5,q6⟩:=seven_b g2;obtain⟨e0,e1,e2,e3⟩:=HXC.out W0 (b0.block xg hxgw);have j0:(0:Int)<(xs.length:Int):=by omega
 have hwn:IntKind.i64.wrap ((num:Int)+1)=((num+1:Nat):Int):=by rw[IntKind.wrap_i64];omega
 clear hi0 hU hb h c0 c1 c2 c3 hXL hxs hy0 hg0 hNl hNu ha;cases U with
 | error z=>
  go_enter func78,ntmps78;go_wp2_with fail
  try rw[hW0]
  refine wp_region_held_drew (S:=fun w'=>w'.cell? ⟨B,0,none⟩=some Pv/\w'.cell? ⟨w.heap.size,4,none⟩=some (.slice (some ⟨xg,xo,none⟩) xs.length xc)/\w'.cell? ⟨xg,xo,none⟩=some (.int .i64 y0.o)/\w'.cell? ⟨xg,xo+1,none⟩=some (.int .i64 y0.i)/\w'.cell? ⟨xg,xo+2,none⟩=some (.string y0.s)/\w'.cell? ⟨xg,xo+3,none⟩=some xl0) (by kernel_rfl) (by exact⟨pb,px,e0,e1,e2,e3⟩) (fun hHeld=>?_);refine tkH 0 rfl ?_;try simp only [ptH]
  refine tkH 1 rfl ?_;try simp only [ptH]
  refine tkH 2 rfl ?_;try simp only [ptH]
  refine tkH 3 rfl ?_;try simp only [ptH]
  refine tkH 4 rfl ?_;try simp only [ptH]
  refine tkH 5 rfl ?_;try simp only [ptH]
  refine wpAnyH_take (i:=6) (v:=?_) rfl (by kernel_rfl) (by kernel_rfl) (by kernel_rfl) (fun _ _ _ h=>h) (Or.inl ⟨by rfl,?_⟩) (by assumption) ?_;rotate_left 1
  ·intro w hSw;(try dsimp only at hSw);go_simp;first | done | with_reducible rfl | (rw[if_pos (by omega)])
  try simp only [ptH]
  refine tkH 7 rfl ?_;try simp only [ptH]
  refine rdH [8] ?_;refine alH rfl fun K0 hK=>?_
  go_simp
  refine cT.out.mono ?_;rintro ee W2 ⟨rfl,b2d⟩;exact⟨rfl,rfl,fm_below (b0.trans (((Below.refl _ W0).drew.trans b2d).mono b0.size)) hBw⟩
 | ok b=>
  cases b with
  | true=>
   go_enter func78,ntmps78;go_wp2_with fail
   try rw[hW0]
   refine wp_region_held_drew (S:=fun w'=>w'.cell? ⟨B,0,none⟩=some Pv/\w'.cell? ⟨w.heap.size,4,none⟩=some (.slice (some ⟨xg,xo,none⟩) xs.length xc)/\w'.cell? ⟨xg,xo,none⟩=some (.int .i64 y0.o)/\w'.cell? ⟨xg,xo+1,none⟩=some (.int .i64 y0.i)/\w'.cell? ⟨xg,xo+2,none⟩=some (.string y0.s)/\w'.cell? ⟨xg,xo+3,none⟩=some xl0) (by kernel_rfl) (by exact⟨pb,px,e0,e1,e2,e3⟩) (fun hHeld=>?_);refine tkH 0 rfl ?_;try simp only [ptH]
   refine tkH 1 rfl ?_;try simp only [ptH]
   refine tkH 2 rfl ?_;try simp only [ptH]
   refine tkH 3 rfl ?_;try simp only [ptH]
   refine tkH 4 rfl ?_;try simp only [ptH]
   refine tkH 5 rfl ?_;try simp only [ptH]
   refine wpAnyH_take (i:=6) (v:=?_) rfl (by kernel_rfl) (by kernel_rfl) (by kernel_rfl) (fun _ _ _ h=>h) (Or.inl ⟨by rfl,?_⟩) (by assumption) ?_;rotate_left 1
   ·intro w hSw;(try dsimp only at hSw);go_simp;first | done | with_reducible rfl | (rw[if_pos (by omega)])
   try simp only [ptH]
   refine tkH 7 rfl ?_;try simp only [ptH]
   refine rdH [8] ?_;refine alH rfl fun K0 hK=>?_
   go_simp
   refine cT.out.mono ?_;rintro ee W2 ⟨rfl,b2d⟩;have b2:Below W0.heap.size W0 W2:=(Below.refl _ W0).drew.trans b2d;have s2:=b2.size;have bw:=b0.trans (b2.mono b0.size);obtain⟨pb,-,-,-⟩:=wk_box ((b2.block B (by omega)).trans hw0.box);obtain⟨-,-,-,-,px,q5,q6⟩:=seven_b ((b2.block w.heap.size (by omega)).trans g2);obtain⟨e0,e1,e2,e3⟩:=HXC.out W2 (bw.block xg hxgw);refine hK.out _ _ (by exact⟨pb,px,e0,e1,e2,e3⟩) (fun hHeld=>?_);clear hK K0;try simp only [ptH]
   refine dnH ?_;have cN:=HNL.out W2 bw;have HBW:=hid bw;clear cT hw0 g2 b2 b2d bw;go_wp2_with fail
   refine cN.mono ?_;intro ee W3 hA;show _;cases Al with
   | error z=>
    obtain⟨rfl,hf⟩:=hA;exact⟨rfl,lr_from (A:=.error z) HBW.out hBw ⟨rfl,hf⟩⟩
   | ok a=>
    obtain⟨⟨v3,rfl⟩,hrest⟩:=hA;have HR:=hid hrest;clear hrest cN pb px q5 q6 e0 e1 e2 e3;go_wp2_with fail
    go_end0
    exact lr_from (A:=.ok a) HBW.out hBw ⟨⟨_,rfl⟩,HR.out⟩
  | false=>
   go_enter func78,ntmps78;go_wp2_with fail
   try rw[hW0]
   refine wp_region_held_drew (S:=fun w'=>w'.cell? ⟨B,0,none⟩=some Pv/\w'.cell? ⟨w.heap.size,4,none⟩=some (.slice (some ⟨xg,xo,none⟩) xs.length xc)/\w'.cell? ⟨xg,xo,none⟩=some (.int .i64 y0.o)/\w'.cell? ⟨xg,xo+1,none⟩=some (.int .i64 y0.i)/\w'.cell? ⟨xg,xo+2,none⟩=some (.string y0.s)/\w'.cell? ⟨xg,xo+3,none⟩=some xl0) (by kernel_rfl) (by exact⟨pb,px,e0,e1,e2,e3⟩) (fun hHeld=>?_);refine tkH 0 rfl ?_;try simp only [ptH]
   refine tkH 1 rfl ?_;try simp only [ptH]
   refine tkH 2 rfl ?_;try simp only [ptH]
   refine tkH 3 rfl ?_;try simp only [ptH]
   refine tkH 4 rfl ?_;try simp only [ptH]
   refine tkH 5 rfl ?_;try simp only [ptH]
   refine wpAnyH_take (i:=6) (v:=?_) rfl (by kernel_rfl) (by kernel_rfl) (by kernel_rfl) (fun _ _ _ h=>h) (Or.inl ⟨by rfl,?_⟩) (by assumption) ?_;rotate_left 1
   ·intro w hSw;(try dsimp only at hSw);go_simp;first | done | with_reducible rfl | (rw[if_pos (by omega)])
   try simp only [ptH]
   refine tkH 7 rfl ?_;try simp only [ptH]
   refine rdH [8] ?_;refine alH rfl fun K0 hK=>?_
   go_simp
   refine cT.out.mono ?_;rintro ee W2 ⟨rfl,b2d⟩;have b2:Below W0.heap.size W0 W2:=(Below.refl _ W0).drew.trans b2d;have s2:=b2.size;have bw:=b0.trans (b2.mono b0.size);obtain⟨pb,-,-,-⟩:=wk_box ((b2.block B (by omega)).trans hw0.box);obtain⟨-,-,-,-,px,q5,q6⟩:=seven_b ((b2.block w.heap.size (by omega)).trans g2);obtain⟨e0,e1,e2,e3⟩:=HXC.out W2 (bw.block xg hxgw);refine hK.out _ _ (by exact⟨pb,px,e0,e1,e2,e3⟩) (fun hHeld=>?_);clear hK K0;try simp only [ptH]
   refine dnH ?_;have HBW:=hid bw;have HWR:=hid (HH.out.below bw);obtain⟨-,-,z2,-⟩:=wk_box HWR.out.box;clear cT hw0 g2 b2 b2d bw pb px e0 e1 e2 e3;go_wp2_with fail
   go_loopw [2,25] (fun nm i wr=>∃ q:Nat,i=.int .i64 q/\q<=cs.length/\nm=.int .i64 ((num+1+szL (cs.take q):Nat):Int)/\W2=wr) (fun _ i _=>cs.length - (intOf i).toNat)
   case atStart=>exact⟨0,rfl,by omega,by simp [szL_nil],rfl⟩
   case round=>
    obtain⟨q,rfl,hq,rfl,hwr⟩:=hrel;subst hwr;by_cases hlt:q<cs.length
    ·have d0:decide ((q:Int)<(cs.length:Int))=true:=by simp;omega
     obtain⟨hz1,hz2⟩:=Ats.get HA.out hlt;have kz:=HWR.out.zc (num+1+szL (cs.take q)) hz1;rw[hz2] at kz;have hst:=sz_take hlt;have hal:=Ats.len HA.out;have hle:=sz_take_le cs (q+1);obtain⟨N0,hN0⟩ : ∃ N0,num+1+szL (cs.take q)=N0:=⟨_,rfl⟩;obtain⟨N1,hN1⟩ : ∃ N1,num+1+szL (cs.take (q+1))=N1:=⟨_,rfl⟩;obtain⟨D1,hD1⟩ : ∃ D1,n1 cs[q]=D1:=⟨_,rfl⟩;rw[hN0] at kz hz1 ⊢;rw[hD1] at kz hst;have j1:(0:Int)<=(N0:Int):=by omega
     have j2:(N0:Int)<(sv.2.1.length:Int):=by omega
     have hwp:IntKind.i64.wrap ((N0:Int)+(D1:Int))=(N1:Int):=by rw[IntKind.wrap_i64];omega
     have HN1:=hid hN1;clear hst hle hN0 hN1 hD1 hz2;go_wp2_with fail
     go_roundw
     case rel=>exact⟨q+1,by go_num,by omega,by rw[HN1.out],trivial⟩
     case measure=>simp only [intOf];omega
    ·obtain rfl:q=cs.length:=by omega
     have hnlt:decide ((cs.length:Int)<(cs.length:Int))=false:=by simp
     rw[List.take_length];have cN:=HNU.out W2 HBW.out;obtain⟨N0,hN0⟩ : ∃ N0,num+1+szL cs=N0:=⟨_,rfl⟩;rw[hN0] at cN ⊢;clear hN0;go_wp2_with fail
     refine cN.mono ?_;intro ee W3 hA;cases Au with
     | error z=>
      obtain⟨rfl,hf⟩:=hA;exact⟨rfl,lr_from (A:=.error z) HBW.out hBw ⟨rfl,hf⟩⟩
     | ok a=>
      obtain⟨⟨v3,rfl⟩,hrest⟩:=hA;have HR:=hid hrest;clear hrest cN;go_wp2_with fail
      go_end0
      exact lr_from (A:=.ok a) HBW.out hBw ⟨⟨_,rfl⟩,HR.out⟩
end Go.Proofs.YtdolgmmldncfkaaGreatDoor.GCh
namespace Go.Proofs.YtdolgmmldncfkaaGreatDoor.GWi
open Tak
open Go.RowKit Base EPure JPure VSm GPl GVa GEn GBu GBe GNs GNo GPu GRn GNg GKy GLk
open VPure hiding evL
open TBase (T)
theorem wth_app:∀ {xs:List Ex} {L L':List C},wth L xs=.ok L'->∃ N,L'=L ++ N/\N.length=xs.length
 | [],L,L',h=>by
  rw[wth] at h;injection h with h
  exact⟨[],by rw[<- h,List.append_nil],rfl⟩
 | x :: t,L,L',h=>by
  rw[wth] at h;obtain⟨v,h1,h2⟩:=bnd_ok h;obtain⟨N,h3,h4⟩:=wth_app h2;exact⟨v :: N,by rw[h3,List.append_assoc];rfl,by simp [h4]⟩
theorem wth_cons {xs:List Ex} {L:List C} {q:Nat} (h:q<xs.length):wth L (xs.drop q)=bnd (ev (rh L) xs[q]) fun v=>wth (L ++ [v]) (xs.drop (q+1)):=by
 rw[List.drop_eq_getElem_cons h,wth]
theorem with_c {K m lo n num:Nat} {w:World} {B Bb:Nat} {Pv tv fv pv xv lv uv:Value} {sv:Sz} {r:Int} {t:ByteArray} {L:List C} {F:List T} {xs:List Ex} {g:List C->Except Nat (List T × Int)} (h:Wr K m w B Bb Pv sv r L) (hb:Bt lo w Bb Pv.ownBlock tv F) (hBlo:B<lo)
  (hx:XBase.InL false (fun b=>b<K) w n xv xs) (hg:∀ j (h:j<xs.length),gd xs[j]/\ops JVa.okOp xs[j]) (hL2:L.length+xs.length<=100000) (h0:0<L.length) (hnum:num<=100000)
  (hN:∀ N,wth L xs=.ok (L ++ N)->∀ W' Pv',Wr K m W' B Bb Pv' sv r (L ++ N)->Bt lo W' Bb Pv'.ownBlock tv F->Below K w W'->Calls prog 35 #[ptr B,lv,.int .i64 ((num:Int)+1)] W' fun e w'=>LR (Rs K m B Bb sv (L ++ N)) lo B Bb Pv'.ownBlock tv F W' (g (L ++ N)) e w') :
  Calls prog 80 #[ptr B,.agg #[.int .i64 5,.string t,fv,pv,xv,lv,uv],.int .i64 num] w fun e w'=>LR (Rs K m B Bb sv L) lo B Bb Pv.ownBlock tv F w (bnd (wth L xs) g) e w':=by
 have hBw:=h.lt;have hKB:=h.lB;have hBbw:=(Array.getElem?_eq_some_iff.1 hb.box).1;have HX:=hid hx;obtain⟨xa,xc,rfl,hxc1,hxc2,-,-,hXL⟩:=hx;have HXL:=hid hXL;obtain⟨W0,hW0⟩ : ∃ W,w.alloc (.cells #[.int .i64 5,.string t,fv,pv,.slice xa xs.length xc,lv,uv] 42)=W:=⟨_,rfl⟩;have b0:=alB hW0;have s0:=alS hW0;have g2:=alG hW0;have HH:=hid h;have HB0:=hid (bt_keep hb b0.size (b0.block Bb hBbw) (fun b _ h2 _=>b0.block b h2));have HW0:Hid (Wr K m W0 B Bb Pv sv r (L ++ [])):=by rw[List.append_nil];exact h.below b0
 have HG2:=hid g2;have HF0:Hid (Fm B B Pv.ownBlock none w W0):=fm_below b0 hBw;have HGG:=hid hg;have HNN:=hid hN;have hlob:=hb.lob;have HTO:=hid (bt_own hb);obtain⟨T0,hT⟩ : ∃ T0,bnd (wth L xs) g=T0:=⟨_,rfl⟩;rw[hT];have HT:Hid (wth (L ++ []) (xs.drop 0)=wth L xs):=by rw[List.append_nil];rfl
 have HT0:=hid hT;obtain⟨-,-,-,-,px,q5,-⟩:=seven_b g2;have hwn:IntKind.i64.wrap ((num:Int)+1)=(num:Int)+1:=by rw[IntKind.wrap_i64];omega
 clear h hb hXL hg hN hT b0 g2;go_enter func80,ntmps80;go_wp2_with fail
 try rw[hW0]
 go_loopw [11] (fun i wr=>∃ (q:Nat) (N:List C) (Pv':Value),i=.int .i64 q/\q<=xs.length/\N.length=q/\wth (L ++ N) (xs.drop q)=wth L xs/\Wr K m wr B Bb Pv' sv r (L ++ N)/\Bt lo wr Bb Pv'.ownBlock tv F/\Fm B B Pv.ownBlock none w wr/\wr.heap[w.heap.size]? = some (.cells #[.int .i64 5,.string t,fv,pv,.slice xa xs.length xc,lv,uv] 42 (0,0))/\(Pv'.ownBlock=Pv.ownBlock \/ ∃ y,Pv'.ownBlock=some y/\w.heap.size+1<=y)) (fun i _=>xs.length - (intOf i).toNat)
 case atStart=>exact⟨0,[],Pv,rfl,by omega,rfl,HT.out,HW0.out,HB0.out,HF0.out,HG2.out,.inl rfl⟩
 case round=>
  clear HT HW0 HB0 HF0 HG2 px q5;obtain⟨q,N,Pv',rfl,hq,hnl,hM,hwr,hbt,hfm,hcb,hpx⟩:=hrel;have sr:=hfm.size;have scb:=(Array.getElem?_eq_some_iff.1 hcb).1;have HNL:=hid hnl;have HWR:=hid hwr;have HBt:=hid hbt;have HFm:=hid hfm;have HCB:=hid hcb;have HPX:=hid hpx;have bK:=hfm.below K hKB hKB (fun y hy=>(HH.out.xb y hy).1) (fun y e=>by cases e);by_cases hlt:q<xs.length
  ·have d0:decide ((q:Int)<(xs.length:Int))=true:=by simp;omega
   have i0:(0:Int)<=(q:Int):=by omega
   have i1:(q:Int)<(xs.length:Int):=by omega
   obtain⟨xg,xo,u0,rfl,hxg,hu0,hi0⟩:=XBase.elem_at HXL.out hlt;rw[wth_cons hlt] at hM;obtain⟨y,hy⟩ : ∃ y,xs[q]=y:=⟨_,rfl⟩;have hgy:=HGG.out q hlt;rw[hy] at hi0 hM hgy;obtain⟨n0,yl,rfl,rfl,-,-,-,ya,yc,rfl,-,-,-⟩:=hi0.shape;obtain⟨v0,v1,v2,v3,he,c0,c1,c2,c3⟩:=hu0;simp only [Value.agg.injEq, Array.mk.injEq, List.cons.injEq, and_true] at he;obtain⟨rfl,rfl,rfl,rfl⟩:=he;have hxb:=bK.block xg hxg;have c0:=(World.cell?_of_block (w:=w) hxb).trans c0;have c1:=(World.cell?_of_block (w:=w) hxb).trans c1;have c2:=(World.cell?_of_block (w:=w) hxb).trans c2;have c3:=(World.cell?_of_block (w:=w) hxb).trans c3;obtain⟨W1,hW1⟩ : ∃ W,wr.alloc (.cells #[.int .i64 y.o,.int .i64 y.i,.string y.s,.slice ya y.l.length yc] 44)=W:=⟨_,rfl⟩;have b1:=alB hW1;have s1:=alS hW1;have HE1:=hid (alG hW1);obtain⟨e0,e1,e2,e3⟩:=XBase.four_box HE1.out;have hwlt:=hwr.lt;obtain⟨pb,-,-,-⟩:=wk_box (hwr.below (b1.trans ((Below.refl _ W1).drew.mono b1.size))).box
   obtain⟨U,hU⟩ : ∃ U,ev (rh (L ++ N)) y=U:=⟨_,rfl⟩;have cV:Hid (Calls prog 111 #[Pv',.agg #[.int .i64 y.o,.int .i64 y.i,.string y.s,.slice ya y.l.length yc]] W1.drew fun e w'=>VRs.VR K (m+1) W1.drew U e w'):=by
    rw[<- hU];exact value_c ((hwr.below (b1.trans ((Below.refl _ W1).drew.mono b1.size))).bs.rk (hi0.keep (w':=W1.drew) (fun b hb _=>((b1.block b (by have:b<K:=hb;omega)).trans (bK.block b hb)))) hgy.1 hgy.2)
   have HW1:=hid hW1;have HEU:=hid hU;rw[hU] at hM;have HM:=hid hM;clear hM hwr hbt hfm hcb hpx hnl hi0 hy hgy hU hW1 bK;cases U with
   | error z=>
    go_wp2_with fail
    try rw[HW1.out]
    refine wp_region_held_drew (S:=fun w'=>w'.cell? ⟨wr.heap.size,0,none⟩=some (.int .i64 y.o)/\w'.cell? ⟨wr.heap.size,1,none⟩=some (.int .i64 y.i)/\w'.cell? ⟨wr.heap.size,2,none⟩=some (.string y.s)/\w'.cell? ⟨wr.heap.size,3,none⟩=some (.slice ya y.l.length yc)) (by kernel_rfl) (by exact⟨e0,e1,e2,e3⟩) (fun hHeld=>?_);refine tkH 0 rfl ?_;try simp only [ptH]
    refine tkH 1 rfl ?_;try simp only [ptH]
    refine tkH 2 rfl ?_;try simp only [ptH]
    refine tkH 3 rfl ?_;try simp only [ptH]
    refine tkH 4 rfl ?_;try simp only [ptH]
    refine tkH 5 rfl ?_;try simp only [ptH]
    refine tkH 7 rfl ?_;try simp only [ptH]
    refine rdH [6] ?_;refine alH rfl fun K0 hK=>?_
    go_simp
    refine hK.out _ _ (by exact⟨e0,e1,e2,e3⟩) (fun hHeld=>?_);clear hK K0;try simp only [ptH]
    refine rdH [8] ?_;refine alH rfl fun K0 hK=>?_
    go_simp
    refine cV.out.mono ?_;rintro ee W2 ⟨b2,rfl⟩;have hT:T0=.error z:=by rw[<- HT0.out,<- HM.out];rfl
    subst hT;exact⟨rfl,rfl,fm_trans (fm_trans (fm_below (Below.refl _ w) hBw) (fm_wk HFm.out) (.inl rfl) (.inr (.inl rfl)) hBw) (fm_below (b1.trans (((Below.refl _ W1).drew.trans b2).mono b1.size)) (by omega)) (.inl rfl) (.inl rfl) hBw⟩
   | ok c=>
    have HEV:=hid HEU.out;go_wp2_with fail
    try rw[HW1.out]
    refine wp_region_held_drew (S:=fun w'=>w'.cell? ⟨wr.heap.size,0,none⟩=some (.int .i64 y.o)/\w'.cell? ⟨wr.heap.size,1,none⟩=some (.int .i64 y.i)/\w'.cell? ⟨wr.heap.size,2,none⟩=some (.string y.s)/\w'.cell? ⟨wr.heap.size,3,none⟩=some (.slice ya y.l.length yc)) (by kernel_rfl) (by exact⟨e0,e1,e2,e3⟩) (fun hHeld=>?_);refine tkH 0 rfl ?_;try simp only [ptH]
    refine tkH 1 rfl ?_;try simp only [ptH]
    refine tkH 2 rfl ?_;try simp only [ptH]
    refine tkH 3 rfl ?_;try simp only [ptH]
    refine tkH 4 rfl ?_;try simp only [ptH]
    refine tkH 5 rfl ?_;try simp only [ptH]
    refine tkH 7 rfl ?_;try simp only [ptH]
    refine rdH [6] ?_;refine alH rfl fun K0 hK=>?_
    go_simp
    refine hK.out _ _ (by exact⟨e0,e1,e2,e3⟩) (fun hHeld=>?_);clear hK K0;try simp only [ptH]
    refine rdH [8] ?_;refine alH rfl fun K0 hK=>?_
    go_simp
    refine cV.out.mono ?_;rintro ee W2 ⟨b2d,u,rfl,hin2⟩;obtain⟨an,ln,cn,al,ll,cl,rfl⟩:=VRs.in_shape hin2;have b2:Below W1.heap.size W1 W2:=(Below.refl _ W1).drew.trans b2d;have s2:=b2.size;obtain⟨e0,e1,e2,e3⟩:=XBase.four_box ((b2.block wr.heap.size (by omega)).trans HE1.out);refine hK.out _ _ (by exact⟨e0,e1,e2,e3⟩) (fun hHeld=>?_);clear hK K0;try simp only [ptH]
    obtain⟨W3,hW3⟩ : ∃ W',W2.alloc (.cells #[.int .i64 c.k,.bool c.b,.int .i64 c.i,.string c.s,.slice an ln cn,.slice al ll cl] 26)=W':=⟨_,rfl⟩;have b3:=alB hW3;have s3:=alS hW3;have b13:=b1.trans ((b2.trans (b3.mono s2)).mono b1.size);have hnc:∀ j u,(flat [.agg #[.int .i64 c.k,.bool c.b,.int .i64 c.i,.string c.s,.slice an ln cn,.slice al ll cl]])[j]? = some u->W3.cell? ((⟨W2.heap.size,0,none⟩ : Addr).add j)=some u:=by
     rw[<- hW3];exact Base.new_cells W2 _ 26
    have cP:=push_c (cp:=1) (N:=[c]) (Ns:=[.agg #[.int .i64 c.k,.bool c.b,.int .i64 c.i,.string c.s,.slice an ln cn,.slice al ll cl]]) (HWR.out.below b13) (by have:=HNL.out;simp;omega) (by have:=HNL.out;omega) rfl (fun u hu=>?_) (fun j a b=>?_) (fun c' hc'=>?_) hnc;rotate_left 1
    ·rw[List.mem_singleton.1 hu];exact⟨_,_,_,_,_,_,rfl,by simp [Value.oneCell']⟩
    ·obtain rfl:j=0:=by simpa using a
     exact hin2.below b3
    ·rw[List.mem_singleton.1 hc'];exact ev_wf HWR.out.wfs _ _ HEV.out
    have HW3:=hid hW3;obtain⟨e0,e1,e2,e3⟩:=XBase.four_box ((b3.block wr.heap.size (by omega)).trans ((b2.block wr.heap.size (by omega)).trans HE1.out));refine rdH [9] ?_;refine alH rfl fun K0 hK=>?_
    go_simp
    try rw[HW3.out]
    refine hK.out _ _ (by exact⟨e0,e1,e2,e3⟩) (fun hHeld=>?_);clear hK K0;try simp only [ptH]
    refine rdH [10] ?_;refine alH rfl fun K0 hK=>?_
    go_simp
    refine cP.mono ?_;rintro ee W4 ⟨⟨v4,rfl⟩,Pv4,hw4,hat4,hf4⟩;have s4:=hf4.size;have hX4:Pv4.ownBlock=Pv.ownBlock \/ ∃ y,Pv4.ownBlock=some y/\w.heap.size+1<=y:=by
     rcases hat4 with k|⟨y,k,hy⟩
     ·rw[k];exact HPX.out
     ·exact .inr ⟨y,k,by omega⟩
    have hnX:∀ b,b<wr.heap.size->b≠B->some b≠Pv'.ownBlock->W4.heap[b]? = wr.heap[b]?:=fun b h1 h2 h3=>(hf4.other b (by omega) h2 h2 h3 (by simp)).trans (b13.block b h1)
    have hE4:W4.heap[wr.heap.size]? = _:=(hf4.other wr.heap.size (by omega) (by omega) (by omega) (fun e=>by have:=(HWR.out.xb _ e.symm).2.1;omega) (by simp)).trans ((b3.block wr.heap.size (by omega)).trans ((b2.block wr.heap.size (by omega)).trans HE1.out));obtain⟨e0,e1,e2,e3⟩:=XBase.four_box hE4;have HE:Hid (Wr K m W4 B Bb Pv4 sv r (L ++ (N ++ [c]))/\Bt lo W4 Bb Pv4.ownBlock tv F/\Fm B B Pv.ownBlock none w W4/\W4.heap[w.heap.size]? = wr.heap[w.heap.size]?/\(Pv4.ownBlock=Pv.ownBlock \/ ∃ y,Pv4.ownBlock=some y/\w.heap.size+1<=y)):=by
     refine⟨by rw[<- List.append_assoc];exact hw4,bt_move HBt.out (by omega) (hnX Bb (by omega) (fun e=>HWR.out.ne e.symm) (fun e=>(HWR.out.xb Bb e.symm).2.2.2 rfl)) (fun b h1 h2 h3=>hnX b h2 (by omega) h3) (hat4.imp (fun e=>e) (fun ⟨y,e,hy⟩=>⟨y,e,by omega⟩)),fm_trans HFm.out (fm_trans (fm_below b13 (by omega)) hf4 (.inl rfl) (.inl rfl) (by omega)) (HPX.out.imp (fun e=>e) (fun ⟨y,e,hy⟩=>⟨y,e,by omega⟩)) (.inl rfl) hBw,hnX _ (by omega) (by omega) (fun e=>by
      rcases HPX.out with k|⟨y,k,hy⟩
      ·have:=(HH.out.xb _ (by rw[<- k,<- e])).2.1;omega
      ·rw[k] at e;have:=Option.some.inj e;omega),hX4⟩
    refine hK.out _ _ (by exact⟨e0,e1,e2,e3⟩) (fun hHeld=>?_);clear hK K0;try simp only [ptH]
    refine dnH ?_;clear hw4 hat4 hf4 hX4 hnX hE4 hin2 b2 b2d b3 b13 cP hnc;go_wp2_with fail
    go_roundw
    case rel=>exact⟨q+1,N ++ [c],Pv4,by go_num,by omega,by simp [HNL.out],by rw[<- List.append_assoc];exact HM.out,HE.out.1,HE.out.2.1,HE.out.2.2.1,HE.out.2.2.2.1.trans HCB.out,HE.out.2.2.2.2⟩
    case measure=>simp only [intOf];omega
  ·skip
   obtain rfl:q=xs.length:=by omega
   have hnlt:decide ((xs.length:Int)<(xs.length:Int))=false:=by simp
   rw[List.drop_length,wth] at hM;have cN:=HNN.out N hM.symm wr Pv' hwr hbt bK;have hT:T0=g (L ++ N):=by rw[<- HT0.out,<- hM];rfl
   obtain⟨G,hG⟩ : ∃ G,g (L ++ N)=G:=⟨_,rfl⟩;rw[hG] at cN hT;subst hT;obtain⟨-,-,-,-,px,q5,-⟩:=seven_b hcb;have hBbB:Bb≠B:=fun e=>hwr.ne e.symm
   have HFW:Hid (Fm B Bb Pv.ownBlock tv.ownBlock w wr):=fm_trans (fm_below (Below.refl _ w) hBw) (fm_wk hfm) (.inl rfl) (.inr (.inl rfl)) hBw;have HXw:Hid (Pv'.ownBlock=Pv.ownBlock \/ ∃ y,Pv'.ownBlock=some y/\w.heap.size<=y):=hpx.imp (fun e=>e) (fun ⟨y,e,hy⟩=>⟨y,e,by omega⟩);have hnP:some w.heap.size≠Pv'.ownBlock:=fun e=>by
    rcases hpx with k|⟨y,k,hy⟩
    ·have:=(HH.out.xb _ (by rw[<- k,<- e])).2.1;omega
    ·rw[k] at e;have:=Option.some.inj e;omega
   have hnT:some w.heap.size≠tv.ownBlock:=fun e=>by have:=(HTO.out _ e.symm).2.1;omega
   clear hM hG hwr hbt hfm hcb hpx hnl bK;go_wp2_with fail
   refine cN.mono ?_;intro ee W5 hA5;cases T0 with
   | error z=>
    obtain⟨rfl,hf5⟩:=hA5;exact⟨rfl,rfl,fm_trans HFW.out hf5 HXw.out (.inl rfl) hBw⟩
   | ok a=>
    obtain⟨⟨v5,rfl⟩,hf5,X5,tv5,hx5,hx5l,⟨Pv5,hP5,hw5⟩,hbt5,hat5⟩:=hA5;subst hP5;have s5:=hf5.size;have hb5:W5.heap[w.heap.size]? = _:=(hf5.other w.heap.size (by omega) (by omega) (by omega) hnP hnT).trans HCB.out;have hX5:Pv5.ownBlock=Pv.ownBlock \/ ∃ y,Pv5.ownBlock=some y/\w.heap.size<=y:=by
     rcases hx5 with k|⟨y,k,hy⟩
     ·rcases HXw.out with k'|⟨y,k',hy⟩
      ·exact .inl (k.trans k')
      ·exact .inr ⟨y,k.trans k',hy⟩
     ·exact .inr ⟨y,k,by omega⟩
    have HF5:=hid (fm_trans HFW.out hf5 HXw.out (.inl rfl) hBw);have bd:Below W5.heap.size W5 W5.drew:=(Below.refl _ W5).drew;have cD:Hid (Calls prog 122 #[ptr B,.int .i64 xs.length] W5.drew fun e w'=>(∃ v,e=.returned v)/\∃ Pv',Wr K m w' B Bb Pv' sv a.2 L/\Pv'.ownBlock=Pv5.ownBlock/\Fm B B Pv5.ownBlock none W5.drew w'):=by
     have hd:=drop_c (N:=N) (hw5.below bd) h0;rw[HNL.out] at hd;exact hd
    have HnP5:Hid (some w.heap.size≠Pv5.ownBlock):=fun e=>by
     rcases hx5 with k|⟨y,k,hy⟩
     ·exact hnP (e.trans k)
     ·rw[k] at e;have:=Option.some.inj e;omega
    have HX5:=hid hX5;have HBT5:=hid hbt5;have HAT5:Hid (tv5.ownBlock=tv.ownBlock \/ ∃ g,tv5.ownBlock=some g/\w.heap.size<=g):=hat5.imp (fun e=>e) (fun ⟨y,e,hy⟩=>⟨y,e,by omega⟩);have hW5x:some Bb≠Pv5.ownBlock:=fun e=>(hw5.xb Bb e.symm).2.2.2 rfl
    have hB5:=hw5.lt;have hBb5:Bb<W5.heap.size:=by omega
    obtain⟨-,-,-,-,px,-,-⟩:=seven_b hb5;clear hf5 hx5 hx5l hw5 hbt5 hat5 hX5 hb5 cN q5;go_wp2_with fail
    refine wp_region_held_drew (S:=fun w'=>w'.cell? ⟨w.heap.size,4,none⟩=some (.slice xa xs.length xc)) (by kernel_rfl) (by exact px) (fun hHeld=>?_);refine tkH 0 rfl ?_;try simp only [ptH]
    refine tkH 1 rfl ?_;try simp only [ptH]
    refine tkH 2 rfl ?_;try simp only [ptH]
    refine tkH 3 rfl ?_;try simp only [ptH]
    refine tkH 4 rfl ?_;try simp only [ptH]
    refine tkH 5 rfl ?_;try simp only [ptH]
    refine rdH [6] ?_;refine alH rfl fun K0 hK=>?_
    go_simp
    refine cD.out.mono ?_;rintro e W6 ⟨⟨v6,rfl⟩,Pv6,hw6,hp6,hf6d⟩;have hf6:=fm_trans (fm_below bd hB5) hf6d (.inl rfl) (.inl rfl) hB5;have HE:Hid (Fm B Bb Pv.ownBlock tv.ownBlock w W6/\Bt lo W6 Bb Pv6.ownBlock tv5 (F ++ a.1)/\(Pv6.ownBlock=Pv.ownBlock \/ ∃ y,Pv6.ownBlock=some y/\w.heap.size<=y)):=by
     refine⟨fm_trans HF5.out (fm_wk hf6) HX5.out (.inr (.inl rfl)) hBw,bt_move HBT5.out hf6.size (hf6.other Bb (by omega) hBbB hBbB hW5x (by simp)) (fun b h1 h2 h3=>hf6.other b h2 (by omega) (by omega) h3 (by simp)) (.inl hp6),?_⟩;rw[hp6];exact HX5.out
    have HW6:=hid hw6;have px6:W6.cell? ⟨w.heap.size,4,none⟩=some (.slice xa xs.length xc):=(World.cell?_of_block (w:=W5) (hf6.other w.heap.size (by omega) (by omega) (by omega) (HnP5.out) (by simp))).trans px;clear cD hp6 hf6 hf6d hw6;refine hK.out _ _ (by exact px6) (fun hHeld=>?_);clear hK K0;try simp only [ptH]
    refine dnH ?_;go_wp2_with fail
    go_end0
    exact⟨⟨_,rfl⟩,HE.out.1,Pv6.ownBlock,tv5,HE.out.2.2,fun y e=>(HW6.out.xb y e).2.1,⟨Pv6,rfl,HW6.out⟩,HE.out.2.1,HAT5.out⟩
end Go.Proofs.YtdolgmmldncfkaaGreatDoor.GWi

import Derived.Test.YtdolgmmldncfkaaGreatDoorPJ04
import Derived.Test.YtdolgmmldncfkaaGreatDoorPJ40
open Go.Proofs.Tryz
set_option linter.unusedVariables false
set_option maxRecDepth 20000
set_option maxHeartbeats 6400000
namespace Go.Proofs.YtdolgmmldncfkaaGreatDoor.GLo
open Tak
open Go.RowKit Base EPure JPure VSm GPl GTr GEn GBu GBe GNs GNo GRn GNg GKy GLk
open VPure hiding evL
open TBase (T)
open IKey (Ky)
theorem meth_l (n : Nat) (hn : prog.types.size + Made.depth = n) (v : Value) (w : World) : Sem.run prog (method n 59 v "Loop") w = .ok (201, v) w := by
 subst hn;kernel_rfl
theorem kys_len {L:List C} {x:Ex}:∀ {l:List C} {i:Nat} {ks ks':List Ky},kys L x l i ks=.ok ks'->ks'.length=ks.length+l.length
 | [],i,ks,ks',h=>by
  rw[kys] at h;injection h with h
  rw[<- h];rfl
 | v :: t,i,ks,ks',h=>by
  rw[kys] at h;obtain⟨k,h1,h2⟩:=bnd_ok h;split at h2
  ·cases h2
  ·have:=kys_len h2
   rw[this];simp
   omega
theorem owK_shape {w:World} {B:Nat} {v:Value} {ks:List Ky} (h:OwK w B v ks):∃ a cap,v=.slice a ks.length cap:=by
 rcases h.2 with ⟨rfl,e⟩|⟨g,cap,cur,rfl,-⟩
 ·exact⟨none,0,by rw[e]⟩
 ·exact⟨_,_,rfl⟩
theorem loop_c {K m lo n num:Nat} {w:World} {B Bb:Nat} {Pv tv fv pv xv lv uv:Value} {sv:Sz} {r:Int} {t:ByteArray} {L:List C} {F:List T} {xs:List Ex} {y0 y1:Ex} {ys:List Ex} {g:Nat->C->Int->Except Nat (List T × Int)} (h:Wr K m w B Bb Pv sv r L) (hb:Bt lo w Bb Pv.ownBlock tv F) (hBlo:B<lo) (hF:(F.length:Int)+r<=65536) (hr:0<=r)
  (hx:XBase.InL false (fun b=>b<K) w n xv xs) (hxs:xs=y0 :: y1 :: ys) (hg0:gd y0/\ops JVa.okOp y0) (hg1:gd y1/\ops JVa.okOp y1) (hval:∀ l,bnd (ev (rh L) y0) isL=.ok l->l.length<=90000/\∀ c ∈ l,wf c) (hL2:L.length+2<=100000) (h0:0<L.length) (hnum:num<=100000)
  (hg:∀ q c x a,0<=x->g q c x=.ok a->(a.1.length:Int)+a.2<=x/\0<=a.2)
  (hN:∀ l q (hq:q<l.length),bnd (ev (rh L) y0) isL=.ok l->∀ W' Pv' x F' tv',Wr K m W' B Bb Pv' sv x (L ++ [l[q],iV q])->Bt lo W' Bb Pv'.ownBlock tv' F'->Below K w W'->(F'.length:Int)+x<=65536->0<=x->Calls prog 35 #[ptr B,lv,.int .i64 ((num:Int)+1)] W' fun e w'=>LR (Rs K m B Bb sv (L ++ [l[q],iV q])) lo B Bb Pv'.ownBlock tv' F' W' (g q l[q] x) e w') :
  Calls prog 79 #[ptr B,.agg #[.int .i64 4,.string t,fv,pv,xv,lv,uv],.int .i64 num] w fun e w'=>LR (Rs K m B Bb sv L) lo B Bb Pv.ownBlock tv F w (bnd (bnd (ev (rh L) y0) isL) fun l=>bnd (kys L y1 l 0 []) fun _=>lp g l 0 r []) e w':=by
 have hmf:∀ (fn:Fn) (first cap:Array Value) (w:World),(Instr.makeFunc fn first cap).run prog w=.ok (.func fn first cap) w:=fun _ _ _ _=>rfl
 have hBw:=h.lt;have hKB:=h.lB;have hBbw:=(Array.getElem?_eq_some_iff.1 hb.box).1;obtain⟨xa,xc,rfl,hxc1,hxc2,-,-,hXL⟩:=hx;obtain⟨xg,xo,u0,rfl,hxg,hu0,hi0⟩:=XBase.elem_at hXL (q:=0) (by rw[hxs];simp);obtain⟨xg',xo',u1,he1,-,hu1,hi1⟩:=XBase.elem_at hXL (q:=1) (by rw[hxs];simp);cases he1;have hxl:2<=xs.length:=by rw[hxs];simp
 have hy0:xs[0]'(by omega)=y0:=by simp [hxs]
 have hy1:xs[1]'(by omega)=y1:=by simp [hxs]
 rw[hy0] at hi0;rw[hy1] at hi1;obtain⟨n0,xl0,rfl,rfl,-⟩:=hi0.shape;obtain⟨n1,xl1,hn1,rfl,-⟩:=hi1.shape;obtain⟨v0,v1,v2,v3,he,c0,c1,c2,c3⟩:=hu0;simp only [Value.agg.injEq, Array.mk.injEq, List.cons.injEq, and_true] at he;obtain⟨rfl,rfl,rfl,rfl⟩:=he;obtain⟨v0,v1,v2,v3,he,d0,d1,d2,d3⟩:=hu1;simp only [Value.agg.injEq, Array.mk.injEq, List.cons.injEq, and_true] at he;obtain⟨rfl,rfl,rfl,rfl⟩:=he;simp only [Nat.zero_mul, Nat.add_zero, Nat.one_mul] at c0 c1 c2 c3 d0 d1 d2 d3;have hxgw:xg<w.heap.size:=by have:xg<K:=hxg;omega
 obtain⟨W0,hW0,s0,b0,g1,g2,g3⟩:=boxes3 w #[ptr B] #[.int .i64 4,.string t,fv,pv,.slice (some ⟨xg,xo,none⟩) xs.length xc,lv,uv] #[.int .i64 num] 112 42 3;have HXC:Hid (∀ W:World,W.heap[xg]? = W0.heap[xg]?->(W.cell? ⟨xg,xo,none⟩=some (.int .i64 y0.o)/\W.cell? ⟨xg,xo+1,none⟩=some (.int .i64 y0.i)/\W.cell? ⟨xg,xo+2,none⟩=some (.string y0.s)/\W.cell? ⟨xg,xo+3,none⟩=some (xl0))/\W.cell? ⟨xg,xo+4,none⟩=some (.int .i64 y1.o)/\W.cell? ⟨xg,xo+5,none⟩=some (.int .i64 y1.i)/\W.cell? ⟨xg,xo+6,none⟩=some (.string y1.s)/\W.cell? ⟨xg,xo+7,none⟩=some (xl1)):=by
  intro W hW;have e:=hW.trans (b0.block xg hxgw);exact⟨⟨(World.cell?_of_block (w:=w) e).trans c0,(World.cell?_of_block (w:=w) e).trans c1,(World.cell?_of_block (w:=w) e).trans c2,(World.cell?_of_block (w:=w) e).trans c3⟩,(World.cell?_of_block (w:=w) e).trans d0,(World.cell?_of_block (w:=w) e).trans d1,(World.cell?_of_block (w:=w) e).trans d2,(World.cell?_of_block (w:=w) e).trans d3⟩
 have s0l:w.heap.size+2<W0.heap.size:=by omega
 clear s0;have hw0:=h.below b0;have HI0:=hid hi0;have HI1:=hid hi1;obtain⟨U,hU⟩ : ∃ U,bnd (ev (rh L) y0) isL=U:=⟨_,rfl⟩;rw[hU] at hval;have cL:Hid (∀ W,Below W0.heap.size W0 W->Calls prog 117 #[Pv,.agg #[.int .i64 y0.o,.int .i64 y0.i,.string y0.s,xl0]] W fun e w'=>GTr.LR K m W U e w'):=fun W hW=>by rw[<- hU];exact list_c ((hw0.below hW).bs.rk (hi0.keep (w':=W) (fun b hb _=>(b0.trans (hW.mono b0.size)).block b (by have:b<K:=hb;omega))) hg0.1 hg0.2)
 rw[hU];rw[hU] at hN;have HNN:=hid hN;have HB:=hid hb;have HH:=hid h;have HVAL:=hid hval;have HG:=hid hg;have HG1:=hid hg1;have p0:=one_b g1;obtain⟨pb,-,-,-⟩:=wk_box hw0.box;obtain⟨-,-,-,-,px,-,-⟩:=seven_b g2;obtain⟨⟨e0,e1,e2,e3⟩,-⟩:=HXC.out W0 rfl;have j0:(0:Int)<(xs.length:Int):=by omega
 have j1:(1:Int)<(xs.length:Int):=by omega
 clear hi0 hi1 hN hval hg hU hb h c0 c1 c2 c3 d0 d1 d2 d3 hXL hxs hy0 hy1 hg0 hg1;cases U with
 | error z=>
  go_enter func79,ntmps79;go_wp2_with fail
  try rw[hW0]
  refine wp_region_held_drew (S:=fun w'=>w'.cell? ⟨w.heap.size,0,none⟩=some (ptr B)/\w'.cell? ⟨B,0,none⟩=some Pv/\w'.cell? ⟨w.heap.size+1,4,none⟩=some (.slice (some ⟨xg,xo,none⟩) xs.length xc)/\w'.cell? ⟨xg,xo,none⟩=some (.int .i64 y0.o)/\w'.cell? ⟨xg,xo+1,none⟩=some (.int .i64 y0.i)/\w'.cell? ⟨xg,xo+2,none⟩=some (.string y0.s)/\w'.cell? ⟨xg,xo+3,none⟩=some (xl0)) (by kernel_rfl) (by exact⟨p0,pb,px,e0,e1,e2,e3⟩) (fun hHeld=>?_);refine tkH 0 rfl ?_;try simp only [ptH]
  refine tkH 1 rfl ?_;try simp only [ptH]
  refine tkH 2 rfl ?_;try simp only [ptH]
  refine tkH 3 rfl ?_;try simp only [ptH]
  refine tkH 4 rfl ?_;try simp only [ptH]
  refine tkH 5 rfl ?_;try simp only [ptH]
  refine wpAnyH_take (i:=6) (v:=?_) rfl (by kernel_rfl) (by kernel_rfl) (by kernel_rfl) (fun _ _ _ h=>h) (Or.inl ⟨by rfl,?_⟩) (by assumption) ?_;rotate_left 1
  ·intro w hSw;(try dsimp only at hSw);go_simp;first | done | with_reducible rfl | (rw[if_pos (by omega)])
  try simp only [ptH]
  refine tkH 7 rfl ?_;try simp only [ptH]
  refine rdH [8,9] ?_;refine AllReadyH.cons rfl (fun K0 hK=>?_) (AllReadyH.cons rfl (fun K0 hK=>?_) (AllReadyH.nil))
  ·go_simp
   refine (cL.out W0.drew ((Below.refl _ W0).drew)).mono ?_;rintro ee W5 ⟨b5,rfl⟩;exact⟨rfl,rfl,fm_below (b0.trans (((Below.refl _ W0).drew.trans b5).mono b0.size)) hBw⟩
  ·go_simp
   obtain⟨W5,hW5⟩ : ∃ W,(W0.alloc (.cells #[.slice none 0 0] 24)).drew=W:=⟨_,rfl⟩;try rw[hW5]
   have b5:Below W0.heap.size W0 W5:=by rw[<- hW5];exact ((Below.refl _ W0).alloc (Nat.le_refl _) _).drew
   have s5:W0.heap.size<W5.heap.size:=by rw[<- hW5];simp
   have HZ5:Hid (W5.heap[W0.heap.size]? = some (.cells #[.slice none 0 0] 24 (0,0))):=by rw[<- hW5];exact heap_alloc_new W0 _
   have p0:=one_b ((b5.block w.heap.size (by omega)).trans g1);obtain⟨pb,-,-,-⟩:=wk_box ((b5.block B (by omega)).trans hw0.box);obtain⟨-,-,-,-,px,-,-⟩:=seven_b ((b5.block (w.heap.size+1) (by omega)).trans g2);obtain⟨⟨e0,e1,e2,e3⟩,-⟩:=HXC.out _ (b5.block xg (by omega));clear hW5;refine hK.out _ _ (by exact⟨p0,pb,px,e0,e1,e2,e3⟩) (fun hHeld=>?_);clear hK K0;try simp only [ptH]
   refine rdH [8] ?_;refine alH rfl fun K0 hK=>?_
   go_simp
   refine (cL.out W5 b5).mono ?_;rintro ee W6 ⟨b6,rfl⟩;exact⟨rfl,rfl,fm_below (b0.trans ((b5.trans (b6.mono b5.size)).mono b0.size)) hBw⟩
 | ok l=>
  go_enter func79,ntmps79;go_upto_region 1 with fail
  try rw[hW0]
  go_cut [6] from 7 to 15 (fun p wc=>∃ R lsv,p=ptr R/\Below W0.heap.size W0 wc/\W0.heap.size<=R/\wc.heap[R]? = some (.cells #[lsv] 24 (0,0))/\Base.InL false (fun b=>b<K) wc m lsv l)
  case first=>
   rename_i JJ KK hJJ hKK
   refine wp_region_held_drew (S:=fun w'=>w'.cell? ⟨w.heap.size,0,none⟩=some (ptr B)/\w'.cell? ⟨B,0,none⟩=some Pv/\w'.cell? ⟨w.heap.size+1,4,none⟩=some (.slice (some ⟨xg,xo,none⟩) xs.length xc)/\w'.cell? ⟨xg,xo,none⟩=some (.int .i64 y0.o)/\w'.cell? ⟨xg,xo+1,none⟩=some (.int .i64 y0.i)/\w'.cell? ⟨xg,xo+2,none⟩=some (.string y0.s)/\w'.cell? ⟨xg,xo+3,none⟩=some (xl0)) (by kernel_rfl) (by exact⟨p0,pb,px,e0,e1,e2,e3⟩) (fun hHeld=>?_);refine tkH 0 rfl ?_;try simp only [ptH]
   refine tkH 1 rfl ?_;try simp only [ptH]
   refine tkH 2 rfl ?_;try simp only [ptH]
   refine tkH 3 rfl ?_;try simp only [ptH]
   refine tkH 4 rfl ?_;try simp only [ptH]
   refine tkH 5 rfl ?_;try simp only [ptH]
   refine wpAnyH_take (i:=6) (v:=?_) rfl (by kernel_rfl) (by kernel_rfl) (by kernel_rfl) (fun _ _ _ h=>h) (Or.inl ⟨by rfl,?_⟩) (by assumption) ?_;rotate_left 1
   ·intro w hSw;(try dsimp only at hSw);go_simp;first | done | with_reducible rfl | (rw[if_pos (by omega)])
   try simp only [ptH]
   refine tkH 7 rfl ?_;try simp only [ptH]
   refine rdH [8,9] ?_;refine AllReadyH.cons rfl (fun K0 hK=>?_) (AllReadyH.cons rfl (fun K0 hK=>?_) (AllReadyH.nil))
   ·go_simp
    refine (cL.out W0.drew ((Below.refl _ W0).drew)).mono ?_;rintro ee W5 ⟨b5d,lsv,rfl,hin5⟩;have b5:Below W0.heap.size W0 W5:=(Below.refl _ W0).drew.trans b5d;have s5:=b5.size;have p0:=one_b ((b5.block w.heap.size (by omega)).trans g1);obtain⟨pb,-,-,-⟩:=wk_box ((b5.block B (by omega)).trans hw0.box);obtain⟨-,-,-,-,px,-,-⟩:=seven_b ((b5.block (w.heap.size+1) (by omega)).trans g2);obtain⟨⟨e0,e1,e2,e3⟩,-⟩:=HXC.out _ (b5.block xg (by omega));obtain⟨la,lcap,rfl,-⟩:=id hin5;refine hK.out _ _ (by exact⟨p0,pb,px,e0,e1,e2,e3⟩) (fun hHeld=>?_);clear hK K0;try simp only [ptH]
    refine rdH [9] ?_;refine alH rfl fun K0 hK=>?_
    go_simp
    obtain⟨W6,hW6⟩ : ∃ W,W5.alloc (.cells #[.slice none 0 0] 24)=W:=⟨_,rfl⟩;try rw[hW6]
    have b6:Below W0.heap.size W0 W6:=by rw[<- hW6];exact b5.alloc s5 _
    obtain⟨RR,hRR⟩ : ∃ R,W5.heap.size=R:=⟨_,rfl⟩;have RRZ:W6.heap[RR]? = some (.cells #[.slice none 0 0] 24 (0,0)):=by rw[<- hW6,<- hRR];exact heap_alloc_new W5 _
    have s6:=b6.size;have b56:=alB hW6;have HIN:=hid (Base.InL.below hin5 b56);try rw[hRR]
    have p0:=one_b ((b6.block w.heap.size (by omega)).trans g1);obtain⟨pb,-,-,-⟩:=wk_box ((b6.block B (by omega)).trans hw0.box);obtain⟨-,-,-,-,px,-,-⟩:=seven_b ((b6.block (w.heap.size+1) (by omega)).trans g2);obtain⟨⟨e0,e1,e2,e3⟩,-⟩:=HXC.out _ (b6.block xg (by omega));clear hW6;refine hK.out _ _ (by exact⟨p0,pb,px,e0,e1,e2,e3⟩) (fun hHeld=>?_);clear hK K0;try simp only [ptH]
    have r0:=one_b RRZ;have rf0:=Base.frozen_box RRZ 0;obtain⟨W9,hW9⟩ : ∃ W,W6.setCell ⟨RR,0,none⟩ (.slice la l.length lcap)=W:=⟨_,rfl⟩;have q1:W9.heap[RR]? = some (.cells #[.slice la l.length lcap] 24 (0,0)):=by rw[<- hW9];exact TBase.block_set RRZ _
    have b9:Below W0.heap.size W0 W9:=by rw[<- hW9];exact b6.setCell (by show W0.heap.size<=RR;omega) _
    have hin9:Base.InL false (fun b=>b<K) W9 m (.slice la l.length lcap) l:=Base.InL.keep (w':=W9) HIN.out (fun b hb hl=>by rw[<- hW9,Below.heap_setCell _ _ _ _ (by show b≠RR;have:b<K:=hb;omega)]);have HL:Hid (Below W0.heap.size W0 W9/\W0.heap.size<=RR/\W9.heap[RR]? = some (.cells #[.slice la l.length lcap] 24 (0,0))/\Base.InL false (fun b=>b<K) W9 m (.slice la l.length lcap) l):=⟨b9,by omega,q1,hin9⟩;have p0:=one_b ((b9.block w.heap.size (by omega)).trans g1);obtain⟨pb,-,-,-⟩:=wk_box ((b9.block B (by omega)).trans hw0.box);obtain⟨-,-,-,-,px,-,-⟩:=seven_b ((b9.block (w.heap.size+1) (by omega)).trans g2);obtain⟨⟨e0,e1,e2,e3⟩,-⟩:=HXC.out _ (b9.block xg (by omega));refine rdH [10] ?_;refine alH rfl fun K0 hK=>?_
    go_wp2_with fail
    try rw[hW9]
    refine hK.out _ _ (by exact⟨p0,pb,px,e0,e1,e2,e3⟩) (fun hHeld=>?_);clear hK K0;try simp only [ptH]
    refine dnH ?_;go_wp2_with fail
    exact Met.intro (hJJ _ _ ⟨_,_,_,_,_,_,_,_,_,_,⟨_,_,rfl,HL.out⟩,rfl⟩)
   ·go_simp
    obtain⟨W5,hW5⟩ : ∃ W,(W0.alloc (.cells #[.slice none 0 0] 24)).drew=W:=⟨_,rfl⟩;try rw[hW5]
    have b5:Below W0.heap.size W0 W5:=by rw[<- hW5];exact ((Below.refl _ W0).alloc (Nat.le_refl _) _).drew
    have s5:W0.heap.size<W5.heap.size:=by rw[<- hW5];simp
    have HZ5:Hid (W5.heap[W0.heap.size]? = some (.cells #[.slice none 0 0] 24 (0,0))):=by rw[<- hW5];exact heap_alloc_new W0 _
    have p0:=one_b ((b5.block w.heap.size (by omega)).trans g1);obtain⟨pb,-,-,-⟩:=wk_box ((b5.block B (by omega)).trans hw0.box);obtain⟨-,-,-,-,px,-,-⟩:=seven_b ((b5.block (w.heap.size+1) (by omega)).trans g2);obtain⟨⟨e0,e1,e2,e3⟩,-⟩:=HXC.out _ (b5.block xg (by omega));clear hW5;refine hK.out _ _ (by exact⟨p0,pb,px,e0,e1,e2,e3⟩) (fun hHeld=>?_);clear hK K0;try simp only [ptH]
    refine rdH [8] ?_;refine alH rfl fun K0 hK=>?_
    go_simp
    refine (cL.out W5 b5).mono ?_;rintro ee W6 ⟨b6d,lsv,rfl,hin6⟩;have b6:Below W0.heap.size W0 W6:=b5.trans (b6d.mono (by omega));have s6:=b6.size;obtain⟨RR,hRR⟩ : ∃ R,W0.heap.size=R:=⟨_,rfl⟩;have RRZ:W6.heap[RR]? = some (.cells #[.slice none 0 0] 24 (0,0)):=by rw[<- hRR];exact (b6d.block _ (by omega)).trans HZ5.out
    skip
    have p0:=one_b ((b6.block w.heap.size (by omega)).trans g1);obtain⟨pb,-,-,-⟩:=wk_box ((b6.block B (by omega)).trans hw0.box);obtain⟨-,-,-,-,px,-,-⟩:=seven_b ((b6.block (w.heap.size+1) (by omega)).trans g2);obtain⟨⟨e0,e1,e2,e3⟩,-⟩:=HXC.out _ (b6.block xg (by omega));obtain⟨la,lcap,rfl,-⟩:=id hin6;have HIN:=hid hin6;refine hK.out _ _ (by exact⟨p0,pb,px,e0,e1,e2,e3⟩) (fun hHeld=>?_);clear hK K0;try simp only [ptH]
    try rw[hRR]
    have r0:=one_b RRZ;have rf0:=Base.frozen_box RRZ 0;obtain⟨W9,hW9⟩ : ∃ W,W6.setCell ⟨RR,0,none⟩ (.slice la l.length lcap)=W:=⟨_,rfl⟩;have q1:W9.heap[RR]? = some (.cells #[.slice la l.length lcap] 24 (0,0)):=by rw[<- hW9];exact TBase.block_set RRZ _
    have b9:Below W0.heap.size W0 W9:=by rw[<- hW9];exact b6.setCell (by show W0.heap.size<=RR;omega) _
    have hin9:Base.InL false (fun b=>b<K) W9 m (.slice la l.length lcap) l:=Base.InL.keep (w':=W9) HIN.out (fun b hb hl=>by rw[<- hW9,Below.heap_setCell _ _ _ _ (by show b≠RR;have:b<K:=hb;omega)]);have HL:Hid (Below W0.heap.size W0 W9/\W0.heap.size<=RR/\W9.heap[RR]? = some (.cells #[.slice la l.length lcap] 24 (0,0))/\Base.InL false (fun b=>b<K) W9 m (.slice la l.length lcap) l):=⟨b9,by omega,q1,hin9⟩;have p0:=one_b ((b9.block w.heap.size (by omega)).trans g1);obtain⟨pb,-,-,-⟩:=wk_box ((b9.block B (by omega)).trans hw0.box);obtain⟨-,-,-,-,px,-,-⟩:=seven_b ((b9.block (w.heap.size+1) (by omega)).trans g2);obtain⟨⟨e0,e1,e2,e3⟩,-⟩:=HXC.out _ (b9.block xg (by omega));refine rdH [10] ?_;refine alH rfl fun K0 hK=>?_
    go_wp2_with fail
    try rw[hW9]
    refine hK.out _ _ (by exact⟨p0,pb,px,e0,e1,e2,e3⟩) (fun hHeld=>?_);clear hK K0;try simp only [ptH]
    refine dnH ?_;go_wp2_with fail
    exact Met.intro (hJJ _ _ ⟨_,_,_,_,_,_,_,_,_,_,⟨_,_,rfl,HL.out⟩,rfl⟩)
  case rest=>
   obtain⟨R,lsv,rfl,bc,hR,hRc,hinc⟩:=hcut;have sc:=bc.size;have HBW:=hid (b0.trans (bc.mono b0.size));have HBWd:=hid HBW.out.drew;have HC1:=hid ((bc.block _ (by omega)).trans g1);have HC2:=hid ((bc.block _ (by omega)).trans g2);have HC3:=hid ((bc.block _ (by omega)).trans g3);have HC4:=hid hRc;have hRl:=(Array.getElem?_eq_some_iff.1 hRc).1;have HLc:=hid hinc;have HBc:=hid (bt_keep HB.out HBW.out.size (HBW.out.block Bb hBbw) (fun b _ h2 _=>HBW.out.block b h2));have hwc:=HH.out.below HBW.out;have HSBk:Hid (∀ W:World,(∀ b,w.heap.size<=b->b<wc.heap.size->W.heap[b]? = wc.heap[b]?)->W.heap[xg]? = wc.heap[xg]?->W.cell? ⟨w.heap.size,0,none⟩=some (ptr B)/\W.cell? ⟨w.heap.size+1+1,0,none⟩=some (.int .i64 num)/\W.cell? ⟨R,0,none⟩=some lsv/\W.cell? ⟨w.heap.size+1,4,none⟩=some (.slice (some ⟨xg,xo,none⟩) xs.length xc)/\W.cell? ⟨xg,xo+4,none⟩=some (.int .i64 y1.o)/\W.cell? ⟨xg,xo+5,none⟩=some (.int .i64 y1.i)/\W.cell? ⟨xg,xo+6,none⟩=some (.string y1.s)/\W.cell? ⟨xg,xo+7,none⟩=some (xl1)):=by
    intro W hW hx;obtain⟨-,-,-,-,px,-,-⟩:=seven_b ((hW _ (by omega) (by omega)).trans HC2.out);exact⟨one_b ((hW _ (by omega) (by omega)).trans HC1.out),one_b ((hW _ (by omega) (by omega)).trans HC3.out),one_b ((hW _ (by omega) hRl).trans HC4.out),px,(HXC.out W (hx.trans (bc.block xg (by omega)))).2⟩
   obtain⟨V,hV⟩ : ∃ V,kys L y1 l 0 []=V:=⟨_,rfl⟩;have cK:Hid (Calls prog 118 #[ptr B,lsv,.agg #[.int .i64 y1.o,.int .i64 y1.i,.string y1.s,xl1]] wc.drew fun e w'=>KA K m B Bb Pv.ownBlock sv r L wc.drew V e w'):=by
    rw[<- hV];exact keys_c (hwc.below ((Below.refl _ wc).drew)) (Base.InL.below hinc ((Below.refl _ wc).drew)) (HI1.out.keep (w':=wc.drew) (fun b hb _=>HBWd.out.block b (by have:b<K:=hb;omega))) HG1.out.1 HG1.out.2 (HVAL.out l rfl).2 hL2 (HVAL.out l rfl).1 (by show Bb<wc.heap.size;omega) h0
   have HV:=hid hV;clear p0 pb px e0 e1 e2 e3 hV hinc hRc hw0 g1 g2 g3;obtain⟨p0,pn,pr,px,e0,e1,e2,e3⟩:=HSBk.out wc (fun _ _ _=>rfl) rfl;obtain⟨-,pm,-,-⟩:=wk_box hwc.box;cases V with
   | error z=>
    have e9:(bnd (Except.ok l:Except Nat (List C)) fun l=>bnd (kys L y1 l 0 []) fun _=>lp g l 0 r [])=.error z:=by show bnd (kys L y1 l 0 []) _=_;rw[HV.out];rfl
    go_wp2_with fail
    refine wp_region_held_drew (S:=fun w'=>w'.cell? ⟨w.heap.size,0,none⟩=some (ptr B)/\w'.cell? ⟨B,1,none⟩=some (mkr Bb)/\w'.cell? ⟨w.heap.size+1+1,0,none⟩=some (.int .i64 num)/\w'.cell? ⟨R,0,none⟩=some lsv/\w'.cell? ⟨w.heap.size+1,4,none⟩=some (.slice (some ⟨xg,xo,none⟩) xs.length xc)/\w'.cell? ⟨xg,xo+4,none⟩=some (.int .i64 y1.o)/\w'.cell? ⟨xg,xo+5,none⟩=some (.int .i64 y1.i)/\w'.cell? ⟨xg,xo+6,none⟩=some (.string y1.s)/\w'.cell? ⟨xg,xo+7,none⟩=some (xl1)) (by kernel_rfl) (by exact⟨p0,pm,pn,pr,px,e0,e1,e2,e3⟩) (fun hHeld=>?_);refine tkH 0 rfl ?_;try simp only [ptH]
    refine tkH 1 rfl ?_;try simp only [ptH]
    refine tkH 2 rfl ?_;try simp only [ptH]
    refine tkH 3 rfl ?_;try simp only [ptH]
    refine tkH 4 rfl ?_;try simp only [ptH]
    refine tkH 5 rfl ?_;try simp only [ptH]
    refine tkH 6 rfl ?_;try simp only [ptH]
    refine tkH 7 rfl ?_;try simp only [ptH]
    refine tkH 8 rfl ?_;try simp only [ptH]
    refine wpAnyH_take (i:=9) (v:=?_) rfl (by kernel_rfl) (by kernel_rfl) (by kernel_rfl) (fun _ _ _ h=>h) (Or.inl ⟨by rfl,?_⟩) (by assumption) ?_;rotate_left 1
    ·intro w hSw;(try dsimp only at hSw);go_simp;first | done | with_reducible rfl | (rw[if_pos (by omega)])
    try simp only [ptH]
    refine tkH 10 rfl ?_;try simp only [ptH]
    refine tkH 12 rfl ?_;try simp only [ptH]
    refine tkH 13 rfl ?_;try simp only [ptH]
    refine tkH 14 rfl ?_;try simp only [ptH]
    refine rdH [11] ?_;refine alH rfl fun K0 hK=>?_
    go_simp
    refine cK.out.mono ?_;rintro ee W5 ⟨rfl,hf5⟩;refine⟨rfl,?_⟩;show GNg.LR _ lo B Bb _ tv F w (bnd (Except.ok l:Except Nat (List C)) fun l=>bnd (kys L y1 l 0 []) fun _=>lp g l 0 r []) _ _;rw[e9];exact⟨rfl,fm_trans (fm_below HBWd.out hBw) (fm_wk hf5) (.inl rfl) (.inr (.inl rfl)) hBw⟩
   | ok ks=>
    go_wp2_with fail
    refine wp_region_held_drew (S:=fun w'=>w'.cell? ⟨w.heap.size,0,none⟩=some (ptr B)/\w'.cell? ⟨B,1,none⟩=some (mkr Bb)/\w'.cell? ⟨w.heap.size+1+1,0,none⟩=some (.int .i64 num)/\w'.cell? ⟨R,0,none⟩=some lsv/\w'.cell? ⟨w.heap.size+1,4,none⟩=some (.slice (some ⟨xg,xo,none⟩) xs.length xc)/\w'.cell? ⟨xg,xo+4,none⟩=some (.int .i64 y1.o)/\w'.cell? ⟨xg,xo+5,none⟩=some (.int .i64 y1.i)/\w'.cell? ⟨xg,xo+6,none⟩=some (.string y1.s)/\w'.cell? ⟨xg,xo+7,none⟩=some (xl1)) (by kernel_rfl) (by exact⟨p0,pm,pn,pr,px,e0,e1,e2,e3⟩) (fun hHeld=>?_);refine tkH 0 rfl ?_;try simp only [ptH]
    refine tkH 1 rfl ?_;try simp only [ptH]
    refine tkH 2 rfl ?_;try simp only [ptH]
    refine tkH 3 rfl ?_;try simp only [ptH]
    refine tkH 4 rfl ?_;try simp only [ptH]
    refine tkH 5 rfl ?_;try simp only [ptH]
    refine tkH 6 rfl ?_;try simp only [ptH]
    refine tkH 7 rfl ?_;try simp only [ptH]
    refine tkH 8 rfl ?_;try simp only [ptH]
    refine wpAnyH_take (i:=9) (v:=?_) rfl (by kernel_rfl) (by kernel_rfl) (by kernel_rfl) (fun _ _ _ h=>h) (Or.inl ⟨by rfl,?_⟩) (by assumption) ?_;rotate_left 1
    ·intro w hSw;(try dsimp only at hSw);go_simp;first | done | with_reducible rfl | (rw[if_pos (by omega)])
    try simp only [ptH]
    refine tkH 10 rfl ?_;try simp only [ptH]
    refine tkH 12 rfl ?_;try simp only [ptH]
    refine tkH 13 rfl ?_;try simp only [ptH]
    refine tkH 14 rfl ?_;try simp only [ptH]
    refine rdH [11] ?_;refine alH rfl fun K0 hK=>?_
    go_simp
    refine cK.out.mono ?_;rintro ee W5 ⟨v5,Pv5,rfl,hok,hw5,hat5,hf5⟩;have s5:=hf5.size;have HKL:=kys_len HV.out;obtain⟨ka,kc,rfl⟩:=owK_shape hok;have hsd:wc.drew.heap.size=wc.heap.size:=rfl;have hX5:Pv5.ownBlock=Pv.ownBlock \/ ∃ y,Pv5.ownBlock=some y/\wc.heap.size<=y:=hat5;have hfw5:Fm B Bb Pv.ownBlock tv.ownBlock w W5:=fm_trans (fm_below HBWd.out hBw) (fm_wk hf5) (.inl rfl) (.inr (.inl rfl)) hBw;have ho5:∀ b,b<wc.heap.size->b≠B->some b≠Pv.ownBlock->W5.heap[b]? = wc.heap[b]?:=fun b h1 h2 h3=>hf5.other b h1 h2 h2 h3 (by simp)
    have hbt5:Bt lo W5 Bb Pv5.ownBlock tv F:=bt_move HBc.out (by omega) (ho5 Bb (by omega) (fun e=>HH.out.ne e.symm) (fun e=>(HH.out.xb Bb e.symm).2.2.2 rfl)) (fun b h1 h2 h3=>ho5 b h2 (by omega) h3) hX5;have hbx5:∀ b,w.heap.size<=b->b<wc.heap.size->W5.heap[b]? = wc.heap[b]?:=fun b h1 h2=>ho5 b h2 (by omega) (fun e=>by have:=(HH.out.xb b e.symm).2.1;omega)
    obtain⟨f,hf⟩ : ∃ f:Nat->Int->Except Nat (List T × Int),f=fun q x=>if h:q<l.length then g q l[q] x else .error 0:=⟨_,rfl⟩
    have hfq:∀ q (h:q<l.length),f q=g q l[q]:=fun q h=>by rw[hf];funext x;exact dif_pos h
    have hgl:=GLB.gl_lp hfq l.length 0 r [] (by omega);rw[List.drop_zero] at hgl;have hkl:ks.length=l.length:=by rw[HKL];simp
    have bK5:Below K w W5:=hfw5.below K hKB HH.out.lb (fun y hy=>(HH.out.xb y hy).1) (fun y hy=>by have:=(bt_own HB.out y hy).1;omega);have cB:=GLB.loop_c (n:=ks.length) (num:=num) (ka:=ka) (kc:=kc) (caps:=#[ptr w.heap.size,ptr R,ptr (w.heap.size+1),ptr (w.heap.size+1+1)]) (f:=f) hw5 ⟨hr,by omega⟩ hbt5 hF (by have:=(HVAL.out l rfl).1;omega) (fun q x a hx e=>?_) (fun q hq W Pv' x F' tv' hfm hwr hbt hFx hx0 hpx htx=>?_);rotate_left 1
    ·by_cases hq:q<l.length
     ·rw[hfq q hq] at e
      exact HG.out q _ x a hx e
     ·rw[hf] at e
      simp only [dif_neg hq] at e;cases e
    ·have hq':q<l.length:=by omega
     rw[hfq q hq'];have hsW:=hfm.size;have hbW:∀ b,w.heap.size<=b->b<wc.heap.size->W.heap[b]? = wc.heap[b]?:=fun b h1 h2=>(hfm.other b (by omega) (by omega) (by omega) (fun e=>by
      rcases hX5 with k|⟨y,k,hy⟩
      ·have:=(HH.out.xb b (by rw[<- k,<- e])).2.1;omega
      ·rw[k] at e;have:=Option.some.inj e;omega) (fun e=>by have:=(bt_own HB.out b e.symm).2.1;omega)).trans (hbx5 b h1 h2)
     have bKW:Below K w W:=bK5.trans (hfm.below K hKB HH.out.lb (fun y hy=>(hw5.xb y hy).1) (fun y hy=>by have:=(bt_own HB.out y hy).1;omega));have hlW:Base.InL false (fun b=>b<K) W m lsv l:=Base.InL.keep (w':=W) HLc.out (fun b hb _=>(bKW.block b hb).trans ((HBW.out.block b (by have:b<K:=hb;omega)).symm));exact round_c hwr hbt hBlo hFx ((hbW _ (by omega) (by omega)).trans HC1.out) ((hbW R (by omega) (by omega)).trans HC4.out) ((hbW _ (by omega) (by omega)).trans HC2.out) ((hbW _ (by omega) (by omega)).trans HC3.out) (fun b hb=>by
      have hb2:w.heap.size<=b/\b<wc.heap.size:=by rcases hb with rfl|rfl|rfl|rfl <;> omega
      refine⟨⟨by omega,by omega⟩,fun e=>?_,fun e=>?_⟩
      ·rcases hpx with k|⟨y,k,hy⟩
       ·rcases hX5 with k'|⟨y,k',hy⟩
        ·have:=(HH.out.xb b (by rw[<- k',<- k,<- e])).2.1;omega
        ·rw[k,k'] at e;have:=Option.some.inj e;omega
       ·rw[k] at e;have:=Option.some.inj e;omega
      ·rcases htx with k|⟨y,k,hy⟩
       ·have:=(bt_own HB.out b (by rw[<- k,<- e])).2.1;omega
       ·rw[k] at e;have:=Option.some.inj e;omega) hlW hq' (by have:=(HVAL.out l rfl).1;omega) ((HVAL.out l rfl).2 _ (List.getElem_mem hq')) hL2 h0 hnum (fun W' Pv'' hw' hb' hK'=>HNN.out l q hq' rfl W' Pv'' x F' tv' hw' hb' (bKW.trans hK') hFx hx0)
    rw[hkl,hgl] at cB;have hSB5:=HSBk.out W5 hbx5 (by exact ho5 xg (by omega) (by omega) (fun e=>by have:=(HH.out.xb xg e.symm).1;have:xg<K:=hxg;omega));obtain⟨p0,pn,pr,px,e0,e1,e2,e3⟩:=hSB5;obtain⟨-,pm,-,-⟩:=wk_box hw5.box;obtain⟨A6,hA6⟩ : ∃ A,lp g l 0 r []=A:=⟨_,rfl⟩;rw[hA6] at cB;have HA6:=hid hA6;have HKK:=hid hkl;rw[hkl];clear hA6 hgl hfq hf hbt5 HKL hok hkl;refine hK.out _ _ (by exact⟨p0,pm,pn,pr,px,e0,e1,e2,e3⟩) (fun hHeld=>?_);clear hK K0;try simp only [ptH]
    refine rdH [15] ?_;refine alH rfl fun K0 hK=>?_
    go_simp
    rw[meth_l _ (by kernel_rfl)];go_simp
    refine cB.mono ?_;intro ee W6 hA;skip
    have hT:=HA6.out;cases A6 with
    | error z=>
     obtain⟨rfl,hf6⟩:=hA;refine⟨rfl,?_⟩;show GNg.LR _ lo B Bb _ tv F w (bnd (Except.ok l:Except Nat (List C)) fun l=>bnd (kys L y1 l 0 []) fun _=>lp g l 0 r []) _ _;have e9:(bnd (Except.ok l:Except Nat (List C)) fun l=>bnd (kys L y1 l 0 []) fun _=>lp g l 0 r [])=.error z:=by show bnd (kys L y1 l 0 []) _=_;rw[HV.out];exact hT
     rw[e9];exact⟨rfl,fm_trans hfw5 hf6 (hX5.imp (fun e=>e) (fun ⟨y,e,hy⟩=>⟨y,e,by omega⟩)) (.inl rfl) hBw⟩
    | ok a=>
     obtain⟨⟨v6,rfl⟩,hf6,X6,tv6,hx6,hx6l,⟨Pv6,hP6,hw6⟩,hbt6,hat6⟩:=hA;subst hP6;have s6:=hf6.size;have hfw6:=fm_trans hfw5 hf6 (hX5.imp (fun e=>e) (fun ⟨y,e,hy⟩=>⟨y,e,by omega⟩)) (.inl rfl) hBw;have hbx6:∀ b,w.heap.size<=b->b<wc.heap.size->W6.heap[b]? = wc.heap[b]?:=fun b h1 h2=>(hf6.other b (by omega) (by omega) (by omega) (fun e=>by
      rcases hX5 with k|⟨y,k,hy⟩
      ·have:=(HH.out.xb b (by rw[<- k,<- e])).2.1;omega
      ·rw[k] at e;have:=Option.some.inj e;omega) (fun e=>by have:=(bt_own HB.out b e.symm).2.1;omega)).trans (hbx5 b h1 h2)
     have hxg6:W6.heap[xg]? = wc.heap[xg]?:=(hfw6.other xg (by omega) (by have:xg<K:=hxg;omega) (by have:xg<K:=hxg;have:=HH.out.lb;omega) (fun e=>by have:=(HH.out.xb xg e.symm).1;have:xg<K:=hxg;omega) (fun e=>by have:=(bt_own HB.out xg e.symm).1;have:xg<K:=hxg;omega)).trans (HBW.out.block xg (by omega)).symm;obtain⟨p0,pn,pr,px,e0,e1,e2,e3⟩:=HSBk.out W6 hbx6 hxg6;obtain⟨-,pm,-,-⟩:=wk_box hw6.box;refine hK.out _ _ (by exact⟨p0,pm,pn,pr,px,e0,e1,e2,e3⟩) (fun hHeld=>?_);clear hK K0;try simp only [ptH]
     refine dnH ?_;have HE:Hid (Fm B Bb Pv.ownBlock tv.ownBlock w W6/\(Pv6.ownBlock=Pv.ownBlock \/ ∃ y,Pv6.ownBlock=some y/\w.heap.size<=y)/\(tv6.ownBlock=tv.ownBlock \/ ∃ y,tv6.ownBlock=some y/\w.heap.size<=y)/\Wr K m W6 B Bb Pv6 sv a.2 L/\Bt lo W6 Bb Pv6.ownBlock tv6 (F ++ a.1)):=by
      refine⟨hfw6,?_,hat6.imp (fun e=>e) (fun ⟨y,e,hy⟩=>⟨y,e,by omega⟩),hw6,hbt6⟩;rcases hx6 with k|⟨y,k,hy⟩
      ·rcases hX5 with k'|⟨y,k',hy⟩
       ·exact .inl (k.trans k')
       ·exact .inr ⟨y,k.trans k',by omega⟩
      ·exact .inr ⟨y,k,by omega⟩
     have e9:(bnd (Except.ok l:Except Nat (List C)) fun l=>bnd (kys L y1 l 0 []) fun _=>lp g l 0 r [])=.ok a:=by show bnd (kys L y1 l 0 []) _=_;rw[HV.out];exact hT
     have HE9:=hid e9;clear hfw6 hbx6 hxg6 hx6 hx6l hbt6 hat6 hf6 hw6 e9 cB hT;go_wp2_with fail
     go_end0
     rw[HE9.out];exact⟨⟨_,rfl⟩,HE.out.1,Pv6.ownBlock,tv6,HE.out.2.1,fun y e=>(HE.out.2.2.2.1.xb y e).2.1,⟨Pv6,rfl,HE.out.2.2.2.1⟩,HE.out.2.2.2.2,HE.out.2.2.1⟩
end Go.Proofs.YtdolgmmldncfkaaGreatDoor.GLo

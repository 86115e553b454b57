import Derived.Deep.RegionHeld3
import Derived.Test.YtdolgmmldncfkaaGreatDoorPJ04
import Derived.Test.YtdolgmmldncfkaaGreatDoorPJ08
import Derived.Test.YtdolgmmldncfkaaGreatDoorPJ21
open Go.Proofs.Tryz
set_option linter.unusedVariables false
set_option maxRecDepth 20000
set_option maxHeartbeats 6400000
namespace Go.Proofs.YtdolgmmldncfkaaGreatDoor.GNe
open Tak
open Go.RowKit Base JPure JVr JVa GEn GAs GBu GBe GNs GNo
open VPure hiding evL
open TBase (T)
open KBase (Pt Fld Co RP RF)
def nE (L:List C) (t:ByteArray) (fs:List Fld) (kd:Except Nat (List T × Int)) (r:Int):Except Nat (T × Int):=if r=0 then .error 1601 else bnd (ats L fs) fun n=>bnd kd fun a=>.ok (T.mk t ⟨#[]⟩ n a.1,a.2)
theorem kid_c {W:World} {B b0 b1 b2:Nat} {num k:Int} {t:ByteArray} {fv pv xv lv uv:Value} {R:Int->World->Option Nat->Prop} {lo0 Bb:Nat} {X:Option Nat} {A:Except Nat (List T × Int)} {W':World} (hn:0<=num/\num<=100000) (g1:W.heap[b0]? = some (.cells #[ptr B] 112 (0,0))) (g2:W.heap[b1]? = some (.cells #[.int .i64 k,.string t,fv,pv,xv,lv,uv] 42 (0,0))) (g3:W.heap[b2]? = some (.cells #[.int .i64 num] 3 (0,0)))
  (hk:Calls prog 35 #[ptr B,lv,.int .i64 (num+1)] W fun e w'=>KR R lo0 B Bb X W' A e w'):Calls prog 77 #[ptr b0,ptr b1,ptr b2] W fun e w'=>KR R lo0 B Bb X W' A e w':=by
 have p0:=one_b g1;obtain⟨-,-,-,-,-,e5,-⟩:=seven_b g2;have p1:=one_b g3;have hw:IntKind.i64.wrap (num+1)=num+1:=by rw[IntKind.wrap_i64];omega
 clear g1 g2 g3;cases A with
 | error q=>
  go_enter func77,ntmps77;go_wp2_with (first
   | (go_at_call 35;refine hk.mono ?_;rintro e w' ⟨rfl,hf⟩))
  exact⟨rfl,rfl,hf⟩
 | ok a=>
  go_enter func77,ntmps77;go_wp2_with (first
   | (go_at_call 35;refine hk.mono ?_;rintro e w' ⟨h1,⟨v,rfl⟩,h2⟩))
  go_end0
  exact⟨h1,⟨_,rfl⟩,h2⟩
theorem own_ax {w:World} {B:Nat} {S:Nat->Prop} {v:Value} {n:List (ByteArray × ByteArray)} (h:TBase.OwnA w B v n) (hS:∀ g,v.ownBlock=some g->S g) (hl:n.length<=4096) (hs:∀ t ∈ n,t.1.size<=140737488351232/\t.2.size<=140737488351232):TBase.Ax false S w v n:=by
 have h':=h;rcases h'.2 with ⟨rfl,e⟩|⟨g,cap,cur,rfl,h2,h3,h4,h5,h6⟩
 ·obtain rfl:n=[]:=List.eq_nil_of_length_eq_zero (by omega)
  exact⟨none,0,rfl,by simp,by omega,by simp,by simp,fun _=>rfl,.inl ⟨rfl,rfl⟩⟩
 ·exact⟨some ⟨g,0,none⟩,cap,rfl,h4,by unfold maxLen at h5;omega,by omega,hs,fun e=>by simp at e,.inr ⟨g,0,rfl,hS g rfl,fun j hj=>TBase.ownA_cell h j hj,fun e=>by cases e⟩⟩
theorem elem_no {K m lo:Nat} {w:World} {B Bb:Nat} {Pv:Value} {sv:Sz} {L:List C} {tv:Value} {F:List T} {num:Int} {t:ByteArray} {fv pv xv lv uv:Value} {fs:List Fld} {kd:Except Nat (List T × Int)} (h:Wr K m w B Bb Pv sv 0 L) :
  Calls prog 54 #[ptr B,.agg #[.int .i64 2,.string t,fv,pv,xv,lv,uv],.int .i64 num] w fun e w'=>ER (Rs K m B Bb sv L) lo B Bb Pv.ownBlock tv F w (nE L t fs kd 0) e w':=by
 obtain⟨W0,hW0,s0,b0,g1,g2,g3⟩:=boxes3 w #[ptr B] #[.int .i64 2,.string t,fv,pv,xv,lv,uv] #[.int .i64 num] 112 42 3;have h0:=h.below b0;have hlt:=h.lt;have q0:=one_b g1;obtain⟨d0,d1,d2,d3,d4,d5,d6⟩:=seven_b g2;have n0:=one_b g3;have cE:=enter_no h0.box;have HB0:=hid b0;clear h0 h b0 g1 g2 g3;go_enter func54,ntmps54;go_wp2_with (first
  | (go_at_call 74;refine cE.mono ?_;rintro e W1 ⟨rfl,rfl⟩))
 refine⟨rfl,rfl,fun n h1 h2 h3 h4=>HB0.out.mono (by omega),HB0.out.size,fun b h1 h2 h3 h4 h5=>HB0.out.block b h1⟩
theorem ownA_shape {w:World} {B:Nat} {v:Value} {n:List (ByteArray × ByteArray)} (h:TBase.OwnA w B v n):∃ a k c,v=.slice a k c:=by
 rcases h.2 with ⟨rfl,e⟩|⟨g,cap,cur,rfl,h2,h3,h4,h5,h6⟩
 ·exact⟨_,_,_,rfl⟩
 ·exact⟨_,_,_,rfl⟩
theorem elem_ok {K m lo:Nat} {w:World} {B Bb:Nat} {Pv:Value} {sv:Sz} {r:Int} {L:List C} {tv:Value} {F:List T} {num:Int} {t:ByteArray} {fv pv xv lv uv:Value} {fs:List Fld} {kd:Except Nat (List T × Int)} (h:Wr K m w B Bb Pv sv r L) (hr:0<r/\r<=100000) (hb:Bt lo w Bb Pv.ownBlock tv F) (hBlo:B<lo) (hzl:sv.1<lo) (hF:F.length<=65536) (hn:0<=num/\num<=100000) (ht:t.size<=140737488351232) (hf:RF false (fun b=>b<K) w fv fs) (hg:∀ j (h:j<fs.length),fs[j].b=true->gd fs[j].e/\ops okOp fs[j].e) (hfn:fs.length<=4096)
  (hsz:∀ n,ats L fs=.ok n->n.length<=4096/\∀ t ∈ n,t.1.size<=140737488351232/\t.2.size<=140737488351232)
  (hN:∀ W,Wr K m W B Bb Pv sv (r - 1) L->Bt W.heap.size W Bb Pv.ownBlock (.slice none 0 0) []->Below K w W->Calls prog 35 #[ptr B,lv,.int .i64 (num+1)] W fun e w'=>KR (Rs K m B Bb sv L) W.heap.size B Bb Pv.ownBlock W kd e w') :
  Calls prog 54 #[ptr B,.agg #[.int .i64 2,.string t,fv,pv,xv,lv,uv],.int .i64 num] w fun e w'=>ER (Rs K m B Bb sv L) lo B Bb Pv.ownBlock tv F w (nE L t fs kd r) e w':=by
 obtain⟨fa,fc,rfl,hf2⟩:=hf;have hf:RF false (fun b=>b<K) w (.slice fa fs.length fc) fs:=⟨fa,fc,rfl,hf2⟩;have e0:nE L t fs kd r=bnd (ats L fs) fun n=>bnd kd fun a=>.ok (T.mk t ⟨#[]⟩ n a.1,a.2):=if_neg (by omega)
 rw[e0];obtain⟨W0,hW0,s0,b0,g1,g2,g3⟩:=boxes3 w #[ptr B] #[.int .i64 2,.string t,(.slice fa fs.length fc),pv,xv,lv,uv] #[.int .i64 num] 112 42 3;have h0:=h.below b0;have hlt:=h.lt;have q0:=one_b g1;obtain⟨d0,d1,d2,d3,d4,d5,d6⟩:=seven_b g2;have n0:=one_b g3;obtain⟨W1,hW1⟩ : ∃ W,W0.setCell ⟨B,3,none⟩ (.int .i64 (r - 1))=W:=⟨_,rfl⟩;have h1:=h0.room (r - 1) hW1;have s1:W1.heap.size=w.heap.size+3:=by rw[<- hW1,World.size_setCell,s0]
 have o1:∀ b,b≠B->W1.heap[b]? = W0.heap[b]?:=fun b hb=>by rw[<- hW1,Below.heap_setCell _ _ _ _ (by simpa using hb)]
 have HO1:Hid (∀ b,b<w.heap.size->b≠B->W1.heap[b]? = w.heap[b]?):=fun b hl hb=>(o1 b hb).trans (b0.block b hl)
 have HB1:Hid (∀ n,n<=B->Below n w W1):=fun n hn=>by rw[<- hW1];exact (b0.mono (by omega)).setCell (by simpa using hn) _
 have cE:=enter_ok h0.box hr;have G1:=hid ((o1 w.heap.size (by omega)).trans g1);have G2:=hid ((o1 (w.heap.size+1) (by omega)).trans g2);have G3:=hid ((o1 (w.heap.size+2) (by omega)).trans g3);have H1:=hid h1;have HB:=hid hb;have hlo:=hb.hi;have p0:=one_b G1.out;obtain⟨-,e1,e2,e3,-,e5,-⟩:=seven_b G2.out;have p1:=one_b G3.out;obtain⟨-,m1,-,-⟩:=wk_box h1.box;have hfd:RF false (fun b=>b<K) W1.drew (.slice fa fs.length fc) fs:=KBase.RF.keep (w:=w) (w':=W1.drew) (fun b hb hl=>HO1.out b hl (by have:=h1.lB;omega)) hf;have ct:=GAs.attrs_c (h1.bs.below ((Below.refl _ W1).drew)) hfd hg hfn;obtain⟨U,hU⟩ : ∃ U,ats L fs=U:=⟨_,rfl⟩;rw[hU] at ct hsz;rw[hU];have HSZ:=hid hsz;have HXL:Hid (∀ x,Pv.ownBlock=some x->x<w.heap.size):=fun x e=>(h.xb x e).2.1
 have HNN:=hid hN;have cT:=hid ct;have hbl:=(Array.getElem?_eq_some_iff.1 hb.box).1;clear hU ct hfd;clear h0 h b0 g1 g2 g3 hf hf2 hg e0 hb h1 o1 d1 d2 d3 d4 d5 d6 hsz hN e3 e5;cases U with
 | error q=>
  go_enter func54,ntmps54;go_wp2_with (first
   | (go_at_call 74;refine cE.mono ?_;rintro e W9 ⟨⟨v9,rfl⟩,rfl⟩;rw[hW1]))
  refine wp_region_held_drew (S:=fun w'=>w'.cell? ⟨w.heap.size,0,none⟩=some (ptr B)/\w'.cell? ⟨B,1,none⟩=some (mkr Bb)/\w'.cell? ⟨w.heap.size+1,1,none⟩=some (.string t)/\w'.cell? ⟨w.heap.size+1,2,none⟩=some (.slice fa fs.length fc)/\w'.cell? ⟨w.heap.size+1+1,0,none⟩=some (.int .i64 num)) (by kernel_rfl) (by exact⟨p0,m1,e1,e2,p1⟩) (fun hHeld=>?_);refine tkH 0 rfl ?_;try simp only [ptH]
  refine tkH 1 rfl ?_;try simp only [ptH]
  refine tkH 2 rfl ?_;try simp only [ptH]
  refine tkH 3 rfl ?_;try simp only [ptH]
  refine tkH 4 rfl ?_;try simp only [ptH]
  refine tkH 5 rfl ?_;try simp only [ptH]
  refine tkH 6 rfl ?_;try simp only [ptH]
  refine tkH 7 rfl ?_;try simp only [ptH]
  refine tkH 8 rfl ?_;try simp only [ptH]
  refine tkH 9 rfl ?_;try simp only [ptH]
  refine tkH 11 rfl ?_;try simp only [ptH]
  refine tkH 12 rfl ?_;try simp only [ptH]
  refine tkH 13 rfl ?_;try simp only [ptH]
  refine rdH [10] ?_;refine alH rfl fun K0 hK=>?_
  go_simp
  refine cT.out.mono ?_;rintro ee W2 ⟨b2,hq⟩;obtain rfl:=hq;have b2':Below W1.heap.size W1 W2:=(Below.refl _ W1).drew.trans b2;have s2:=b2'.size;refine⟨rfl,rfl,fun n h1 h2 h3 h4=>(HB1.out n h1).trans (b2'.mono (by omega)),by omega,fun b h1 h2 h3 h4 h5=>?_⟩;rw[b2'.block b (by omega),HO1.out b h1 h2]
 | ok n=>
  have HN:=hid (HSZ.out n rfl);go_enter func54,ntmps54;go_wp2_with (first
   | (go_at_call 74;refine cE.mono ?_;rintro e W9 ⟨⟨v9,rfl⟩,rfl⟩;rw[hW1]))
  refine wp_region_held_drew (S:=fun w'=>w'.cell? ⟨w.heap.size,0,none⟩=some (ptr B)/\w'.cell? ⟨B,1,none⟩=some (mkr Bb)/\w'.cell? ⟨w.heap.size+1,1,none⟩=some (.string t)/\w'.cell? ⟨w.heap.size+1,2,none⟩=some (.slice fa fs.length fc)/\w'.cell? ⟨w.heap.size+1+1,0,none⟩=some (.int .i64 num)) (by kernel_rfl) (by exact⟨p0,m1,e1,e2,p1⟩) (fun hHeld=>?_);refine tkH 0 rfl ?_;try simp only [ptH]
  refine tkH 1 rfl ?_;try simp only [ptH]
  refine tkH 2 rfl ?_;try simp only [ptH]
  refine tkH 3 rfl ?_;try simp only [ptH]
  refine tkH 4 rfl ?_;try simp only [ptH]
  refine tkH 5 rfl ?_;try simp only [ptH]
  refine tkH 6 rfl ?_;try simp only [ptH]
  refine tkH 7 rfl ?_;try simp only [ptH]
  refine tkH 8 rfl ?_;try simp only [ptH]
  refine tkH 9 rfl ?_;try simp only [ptH]
  refine tkH 11 rfl ?_;try simp only [ptH]
  refine tkH 12 rfl ?_;try simp only [ptH]
  refine tkH 13 rfl ?_;try simp only [ptH]
  refine rdH [10] ?_;refine alH rfl fun K0 hK=>?_
  go_simp
  refine cT.out.mono ?_;rintro ee W2 ⟨b2,av,rfl,hav⟩;obtain⟨aa,an,ac,rfl⟩:=ownA_shape hav;have b2':Below W1.heap.size W1 W2:=(Below.refl _ W1).drew.trans b2;have s2:=b2'.size;have H2:=hid (H1.out.below b2');have hob:=bt_own HB.out;have HT2:Hid (Bt lo W2 Bb Pv.ownBlock tv F):=bt_keep HB.out (by omega) (by rw[b2'.block Bb (by omega),HO1.out Bb (by omega) (fun e=>H1.out.ne e.symm)]) (fun b h1 h2 h3=>by rw[b2'.block b (by omega),HO1.out b h2 (by omega)]);have D1:=hid ((b2'.block w.heap.size (by omega)).trans G1.out);have D2:=hid ((b2'.block (w.heap.size+1) (by omega)).trans G2.out);have D3:=hid ((b2'.block (w.heap.size+2) (by omega)).trans G3.out);have HAX:Hid (TBase.Ax false (Es lo W2.heap.size Pv.ownBlock tv) W2 (.slice aa an ac) n):=own_ax hav (fun g hg=>by have:=World.ownsRow.lt hav g hg;exact⟨by simp at this;omega,this.2,fun e=>by have:=(H1.out.xb g e.symm).2.1;simp at *;omega,fun e=>by have:=(hob g e).2.1;simp at *;omega⟩) HN.out.1 HN.out.2
  clear hav;have p0:=one_b D1.out;obtain⟨-,e1,e2,e3,-,e5,-⟩:=seven_b D2.out;have p1:=one_b D3.out;obtain⟨-,m1,-,-⟩:=wk_box H2.out.box;refine hK.out _ _ (by exact⟨p0,m1,e1,e2,p1⟩) (fun hHeld=>?_);clear hK K0;try simp only [ptH]
  refine rdH [14] ?_;refine alH rfl fun K0 hK=>?_
  go_simp
  rw[meth_e _ (by kernel_rfl)];go_simp
  obtain⟨V,hV⟩ : ∃ V,W2.setCell ⟨Bb,0,none⟩ (.slice none 0 0)=V:=⟨_,rfl⟩;have sV:V.heap.size=W2.heap.size:=by rw[<- hV,World.size_setCell]
  have oV:∀ b,b≠Bb->V.heap[b]? = W2.heap[b]?:=fun b hb=>by rw[<- hV,Below.heap_setCell _ _ _ _ (by simpa using hb)]
  have bV:∀ n,n<=Bb->Below n W2 V:=fun n hn=>by rw[<- hV];exact (Below.refl n W2).setCell (by simpa using hn) _
  have hKB:=H2.out.lb;have hKW:=H2.out.lB;have hWV:Wr K m V B Bb Pv sv (r - 1) L:=H2.out.keep (by omega) (bV K hKB) (oV B H2.out.ne) (fun b hl e=>oV b (H2.out.xb b e).2.2.2) (oV _ H2.out.zb.2.2.1);have hBV:Bt V.heap.size V Bb Pv.ownBlock (.slice none 0 0) []:=⟨by rw[<- hV];exact TBase.block_set HT2.out.box _,by omega,Nat.le_refl _,(fun g e=>by cases e),[],⟨World.ownsRow_nil _ _ _ _,(fun u hu=>by cases hu)⟩,rfl,(fun j h=>by cases h)⟩;have hNV:=HNN.out V hWV hBV (((HB1.out K hKW).trans (b2'.mono (by omega))).trans (bV K hKB));rw[sV] at hNV;have hkv:=kid_c hn ((oV w.heap.size (by omega)).trans D1.out) ((oV (w.heap.size+1) (by omega)).trans D2.out) ((oV (w.heap.size+2) (by omega)).trans D3.out) hNV;have hR:∀ q W W' X',Rs K m B Bb sv L q W X'->(∀ g,tv.ownBlock=some g->g<W.heap.size/\some g≠X')->W.heap.size<=W'.heap.size->(∀ n,n<=Bb->Below n W W')->(∀ b,b<W.heap.size->b≠Bb->some b≠tv.ownBlock->W'.heap[b]? = W.heap[b]?)->Rs K m B Bb sv L q W' X':=fun q W W' X' h1 h2 h3 h4 h5=>Rs.keep (tv:=tv) h1 hBlo hzl (fun g hg=>(hob g hg).1) h2 h3 h4 h5
  rw[<- hV] at hkv;have ce:=elem_c (num:=num) hR HT2.out (fun x e=>(H2.out.xb x e).2.1) hBlo hF ht HAX.out hkv;refine ce.mono ?_;clear ce hkv hNV hBV hWV;cases kd with
  | error q=>
   rintro ee W3 ⟨rfl,hfm⟩;refine⟨rfl,rfl,fun n h1 h2 h3 h4=>((HB1.out n h1).trans (b2'.mono (by omega))).trans (hfm.below n h1 h2 h3 h4),by have:=hfm.size;omega,fun b h1 h2 h3 h4 h5=>?_⟩;rw[hfm.other b (by omega) h2 h3 h4 h5,b2'.block b (by omega),HO1.out b h1 h2]
  | ok ak=>
   rintro ee W3 ⟨⟨v8,rfl⟩,hfm,X',tv',hx1,hx2,hrs,hbt,hat⟩;have s3:=hfm.size;have oth:∀ b,b<W2.heap.size->b≠Bb->b≠B->w.heap.size<=b->W3.heap[b]? = W2.heap[b]?:=fun b h1 h2 h3 h4=>hfm.other b h1 h3 h2 (fun e=>by have:=(H1.out.xb b e.symm).2.1;have:=HXL.out b e.symm;omega) (fun e=>by have:=hob b e.symm;omega)
   have D1c:=hid ((oth w.heap.size (by omega) (by omega) (by omega) (by omega)).trans D1.out);have D2c:=hid ((oth (w.heap.size+1) (by omega) (by omega) (by omega) (by omega)).trans D2.out);have D3c:=hid ((oth (w.heap.size+2) (by omega) (by omega) (by omega) (by omega)).trans D3.out);obtain⟨Pv',hPX,hwr⟩:=hrs;have p0:=one_b D1c.out;obtain⟨-,e1,e2,e3,-,e5,-⟩:=seven_b D2c.out;have p1:=one_b D3c.out;obtain⟨-,m1,-,-⟩:=wk_box hwr.box;refine hK.out _ _ (by exact⟨p0,m1,e1,e2,p1⟩) (fun hHeld=>?_);clear hK K0;try simp only [ptH]
   refine dnH ?_;go_wp2_with fail
   go_end0
   refine⟨⟨_,rfl⟩,⟨fun n h1 h2 h3 h4=>((HB1.out n h1).trans (b2'.mono (by omega))).trans (hfm.below n h1 h2 h3 h4),by omega,fun b h1 h2 h3 h4 h5=>?_⟩,X',tv',hx1.imp (fun e=>e) (fun ⟨x,e,hx⟩=>⟨x,e,by omega⟩),hx2,⟨Pv',hPX,hwr⟩,hbt,hat.imp (fun e=>e) (fun ⟨g,e,hg⟩=>⟨g,e,by omega⟩)⟩;rw[hfm.other b (by omega) h2 h3 h4 h5,b2'.block b (by omega),HO1.out b h1 h2]
end Go.Proofs.YtdolgmmldncfkaaGreatDoor.GNe
namespace Go.Proofs.YtdolgmmldncfkaaGreatDoor.GRe
open Go.RowKit Base GBu GBe GNs
open VPure hiding evL
open TBase (T)
open KBase (Pt Fld Co RP RF)
def TR (Bb:Nat) (w:World) (A:Except Nat (List T)) (e:Ending) (w':World):Prop:=match A with
 | .ok F=>e=.returned (.int .i64 0)/\Below Bb w w'/\F.length<=65536/\∃ lo X tv,Bt lo w' Bb X tv F
 | .error q=>q ≠ 0/\e=.returned (.int .i64 q)/\Below Bb w w'
def RR (w:World) (A:Except Nat (List T)) (e:Ending) (w':World):Prop:=Below w.heap.size w w'/\match A with
 | .ok F=>∃ m tv,e=.returned (.tuple #[tv,.int .i64 0])/\TBase.InL false (fun _=>True) w' m tv F
 | .error q=>e=.returned (.tuple #[.slice none 0 0,.int .i64 q])
theorem render_of {w W0:World} {cv nv lv:Value} {k i:Int} {b:Bool} {s:ByteArray} {A:Except Nat (List T)} (hW0:(w.alloc (.cells #[.int .i64 k,.bool b,.int .i64 i,.string s,nv,lv] 26)).alloc (.cells #[.slice none 0 0] 57)=W0)
  (hT:Calls prog 18 #[cv,.agg #[.int .i64 k,.bool b,.int .i64 i,.string s,nv,lv],mkr (w.heap.size+1)] W0 fun e w'=>TR (w.heap.size+1) W0 A e w'):Calls prog 7 #[cv,.agg #[.int .i64 k,.bool b,.int .i64 i,.string s,nv,lv]] w fun e w'=>RR w A e w':=by
 have b0:Below w.heap.size w W0:=by rw[<- hW0];exact ((Below.refl _ w).alloc (Nat.le_refl _) _).alloc (by simp) _
 have g1:(w.alloc (.cells #[.int .i64 k,.bool b,.int .i64 i,.string s,nv,lv] 26)).heap[w.heap.size]? = some (.cells #[.int .i64 k,.bool b,.int .i64 i,.string s,nv,lv] 26 (0,0)):=heap_alloc_new w _;have g2:W0.heap[w.heap.size]? = some (.cells #[.int .i64 k,.bool b,.int .i64 i,.string s,nv,lv] 26 (0,0)):=by rw[<- hW0,Below.heap_alloc _ _ _ (by simp),g1]
 obtain⟨c0,c1,c2,c3,c4,c5⟩:=six_box g2;have HB:Hid _:=b0;clear g1 g2 b0;cases A with
 | error q=>
  have hne:((q:Int) != 0)=true:=by
   obtain⟨_,_,_,h,_⟩:=hT [];have:=h.1;simp;omega
  go_enter func7,ntmps7;go_wp2_with (first
   | (go_at_call 18;refine hT.mono ?_;rintro e w' ⟨hq,rfl,hb⟩))
  go_ret2
  exact⟨HB.out.trans (hb.mono (by omega)),rfl⟩
 | ok F=>
  go_enter func7,ntmps7;go_wp2_with (first
   | (go_at_call 18;refine hT.mono ?_;rintro e w' ⟨rfl,hb,hF,lo,X,tv,hbt⟩;have kk:w'.cell? ⟨w.heap.size+1,0,none⟩=some tv:=by simp [World.cell?, hbt.box]))
  go_ret2
  obtain⟨m,hL⟩:=bt_inL (lo:=lo) (tv:=.slice none 0 0) hbt (Nat.le_refl _) (fun g e=>by cases e) hF;exact⟨HB.out.trans (hb.mono (by omega)),m,tv,rfl,hL.weak (fun _ _=>trivial) false id m (Nat.le_refl _)⟩
end Go.Proofs.YtdolgmmldncfkaaGreatDoor.GRe
namespace Go.Proofs.YtdolgmmldncfkaaGreatDoor.SBe
open Go.RowKit Base EPure SFit
open XBase (four_box frozen_box Rg Four)
def bhL (lf:Int->Int->ByteArray->Bool):List Ex->Int->Int
 | [],r=>r
 | .mk o i s l :: t,r=>bhL lf t (if r<=0 \/ (l.length:Int) ≠ kd o \/ ft lf o i s=false then -1 else bhL lf l (r - 1))
theorem bhL_nil (lf:Int->Int->ByteArray->Bool) (r:Int):bhL lf [] r=r:=by rw[bhL]
theorem bhL_no {lf:Int->Int->ByteArray->Bool} {o i:Int} {s:ByteArray} {l:List Ex} {r:Int} (h:r<=0\/(l.length:Int)≠kd o\/ft lf o i s=false):bhL lf [.mk o i s l] r = -1:=by
 rw[bhL,if_pos h,bhL_nil]
theorem bhL_one {lf:Int->Int->ByteArray->Bool} {o i:Int} {s:ByteArray} {l:List Ex} {r:Int} (h : ¬ (r<=0\/(l.length:Int)≠kd o\/ft lf o i s=false)):bhL lf [.mk o i s l] r=bhL lf l (r - 1):=by
 rw[bhL,if_neg h,bhL_nil]
theorem bhL_cons (lf:Int->Int->ByteArray->Bool) (x:Ex) (t:List Ex) (r:Int):bhL lf (x :: t) r=bhL lf t (bhL lf [x] r):=by
 obtain⟨o,i,s,l⟩:=x;rw[bhL,bhL,bhL_nil]
theorem bhL_le (lf:Int->Int->ByteArray->Bool):∀ (n:Nat) (l:List Ex) (r:Int),SizeOf.sizeOf l<=n -> -1<=r -> -1<=bhL lf l r/\bhL lf l r<=r:=by
 intro n;induction n with
 | zero=>
  intro l r h hr;cases l with
  | nil=>rw[bhL_nil];omega
  | cons x t=>exact absurd h (by simp)
 | succ n ih=>
  intro l r h hr;cases l with
  | nil=>rw[bhL_nil];omega
  | cons x t=>
   obtain⟨o,i,s,k⟩:=x;rw[bhL];by_cases hc:r<=0\/(k.length:Int)≠kd o\/ft lf o i s=false
   ·rw[if_pos hc]
    have:=ih t (-1) (by simp at h;omega) (by omega);omega
   ·rw[if_neg hc]
    have h1:=ih k (r - 1) (by simp at h;omega) (by omega);have h2:=ih t (bhL lf k (r - 1)) (by simp at h;omega) h1.1;omega
def BI (k:Nat) (lf:Int->Int->ByteArray->Bool) (m:Nat):Prop:=∀ (w:World) (v:Value) (x:Ex) (r:Int),XBase.In false (fun _=>True) w m v x -> -1<=r->r<=65536 ->
  Calls prog 59 #[.int .i64 r,v,lfv k] w fun e w'=>e=.returned (.int .i64 (bhL lf [x] r))/\Below w.heap.size w w'
theorem be_full {k:Nat} {lf:Int->Int->ByteArray->Bool} {w:World} {o i:Int} {s:ByteArray} {l:List Ex} {a:Option Addr} {cap:Nat} {r:Int} (ho : -9223372036854775808<=o/\o<=9223372036854775807) (hl:l.length<=140737488351232) (hcap:l.length<=cap/\cap<=9223372036854775807) (hs:s.size<=140737488351232) (hr1 : -1<=r) (hr5:r<=65536) (h0:r<=0) :
  Calls prog 59 #[.int .i64 r,.agg #[.int .i64 o,.int .i64 i,.string s,.slice a l.length cap],lfv k] w fun e w'=>e=.returned (.int .i64 (-1))/\Below w.heap.size w w':=by
 obtain⟨W0,hW0⟩ : ∃ W0,w.alloc (.cells #[.int .i64 o,.int .i64 i,.string s,.slice a l.length cap] 44)=W0:=⟨_,rfl⟩;have b0:=alB hW0;have q0:=alG hW0;obtain⟨v0,v1,v2,v3⟩:=four_box q0;have HB0:=hid b0;have HQ0:=hid q0;have cK:=fun W=>kidsOf_c o ho.1 ho.2 W
 have e0:decide (r<=0)=true:=decide_eq_true h0;clear q0 b0 h0;go_enter func59,ntmps59;go_wp2_with fail
 clear hW0;go_quiet (first | (go_at_call 82;exact Calls.quiet_of_same (cK _)))
 go_wp2_with fail
 go_ret
 exact⟨rfl,HB0.out.trans ⟨rfl,rfl,rfl,by simp,fun _ _=>by simp⟩⟩
theorem be_kids {k:Nat} {lf:Int->Int->ByteArray->Bool} {w:World} {o i:Int} {s:ByteArray} {l:List Ex} {a:Option Addr} {cap:Nat} {r:Int} (ho : -9223372036854775808<=o/\o<=9223372036854775807) (hl:l.length<=140737488351232) (hcap:l.length<=cap/\cap<=9223372036854775807) (hs:s.size<=140737488351232) (hr1 : -1<=r) (hr5:r<=65536) (h0 : ¬ r<=0) (hk:(l.length:Int)≠kd o) :
  Calls prog 59 #[.int .i64 r,.agg #[.int .i64 o,.int .i64 i,.string s,.slice a l.length cap],lfv k] w fun e w'=>e=.returned (.int .i64 (-1))/\Below w.heap.size w w':=by
 obtain⟨W0,hW0⟩ : ∃ W0,w.alloc (.cells #[.int .i64 o,.int .i64 i,.string s,.slice a l.length cap] 44)=W0:=⟨_,rfl⟩;have b0:=alB hW0;have q0:=alG hW0;obtain⟨v0,v1,v2,v3⟩:=four_box q0;have HB0:=hid b0;have HQ0:=hid q0;have cK:=fun W=>kidsOf_c o ho.1 ho.2 W
 have e0:decide (r<=0)=false:=decide_eq_false h0;obtain⟨K,hK⟩ : ∃ K,kd o=K:=⟨_,rfl⟩;rw[hK] at cK hk;have e1:((l.length:Int) != K)=true:=by simpa using hk
 clear q0 b0 h0 hk hK;go_enter func59,ntmps59;go_wp2_with fail
 clear hW0;go_quiet (first | (go_at_call 82;exact Calls.quiet_of_same (cK _)))
 go_wp2_with fail
 go_ret
 exact⟨rfl,HB0.out.trans ⟨rfl,rfl,rfl,by simp,fun _ _=>by simp⟩⟩
theorem be_unfit {k:Nat} {lf:Int->Int->ByteArray->Bool} {w:World} {o i:Int} {s:ByteArray} {l:List Ex} {a:Option Addr} {cap:Nat} {r:Int} (ho : -9223372036854775808<=o/\o<=9223372036854775807) (hl:l.length<=140737488351232) (hcap:l.length<=cap/\cap<=9223372036854775807) (hs:s.size<=140737488351232) (hr1 : -1<=r) (hr5:r<=65536) (hL:Lf k lf) (h0 : ¬ r<=0) (hk:(l.length:Int)=kd o) (hf:ft lf o i s=false) :
  Calls prog 59 #[.int .i64 r,.agg #[.int .i64 o,.int .i64 i,.string s,.slice a l.length cap],lfv k] w fun e w'=>e=.returned (.int .i64 (-1))/\Below w.heap.size w w':=by
 obtain⟨W0,hW0⟩ : ∃ W0,w.alloc (.cells #[.int .i64 o,.int .i64 i,.string s,.slice a l.length cap] 44)=W0:=⟨_,rfl⟩;have b0:=alB hW0;have q0:=alG hW0;obtain⟨v0,v1,v2,v3⟩:=four_box q0;have HB0:=hid b0;have HQ0:=hid q0;have cK:=fun W=>kidsOf_c o ho.1 ho.2 W
 have e0:decide (r<=0)=false:=decide_eq_false h0;obtain⟨K,hK⟩ : ∃ K,kd o=K:=⟨_,rfl⟩;rw[hK] at cK hk;have e1:((l.length:Int) != K)=false:=by simpa using hk
 have cF:=fun W=>fits_c hL (o:=o) (i:=i) (a:=a) (n:=l.length) (c:=cap) hs W
 rw[hf] at cF;have hz0:W0.heap.size=w.heap.size+1:=by rw[<- hW0];simp
 clear q0 b0 h0 hk hK hf;go_enter func59,ntmps59;go_wp2_with fail
 clear hW0;go_region_held3 (fun w'=>w'.cell? ⟨w.heap.size,0,none⟩=some (.int .i64 o)/\w'.cell? ⟨w.heap.size,1,none⟩=some (.int .i64 i)/\w'.cell? ⟨w.heap.size,2,none⟩=some (.string s)/\w'.cell? ⟨w.heap.size,3,none⟩=some (.slice a l.length cap)) (go_keep) (first | (go_at_call 82;refine (cK _).mono ?_;rintro e W1 ⟨rfl,rfl⟩) | (go_at_call 83;refine (cF _).mono ?_;rintro e W2 ⟨rfl,b2⟩;have Q2:=(b2.block w.heap.size (show w.heap.size<W0.heap.size by omega)).trans HQ0.out;obtain⟨u0,u1,u2,u3⟩:=four_box Q2) | fail)
 all_goals
  rename_i hHeld
  clear hHeld;have B2:Below w.heap.size w W2:=(HB0.out.trans (Below.refl _ W0).drew).trans (b2.mono HB0.out.size);clear u0 u1 u2 u3 Q2;have HB2:=hid B2;clear B2 b2;go_wp2_with fail
  go_ret
  exact⟨rfl,HB2.out⟩
theorem be_go {k:Nat} {lf:Int->Int->ByteArray->Bool} {w:World} {o i:Int} {s:ByteArray} {l:List Ex} {a:Option Addr} {cap:Nat} {r:Int} (ho : -9223372036854775808<=o/\o<=9223372036854775807) (hl:l.length<=140737488351232) (hcap:l.length<=cap/\cap<=9223372036854775807) (hs:s.size<=140737488351232) (hr1 : -1<=r) (hr5:r<=65536) (hL:Lf k lf) {m:Nat} (ih:BI k lf m) (hin:XBase.InL false (fun _=>True) w m (.slice a l.length cap) l) (h0 : ¬ r<=0) (hk:(l.length:Int)=kd o) (hf:ft lf o i s=true) :
  Calls prog 59 #[.int .i64 r,.agg #[.int .i64 o,.int .i64 i,.string s,.slice a l.length cap],lfv k] w fun e w'=>e=.returned (.int .i64 (bhL lf l (r - 1)))/\Below w.heap.size w w':=by
 obtain⟨W0,hW0⟩ : ∃ W0,w.alloc (.cells #[.int .i64 o,.int .i64 i,.string s,.slice a l.length cap] 44)=W0:=⟨_,rfl⟩;have b0:=alB hW0;have q0:=alG hW0;obtain⟨v0,v1,v2,v3⟩:=four_box q0;have HB0:=hid b0;have HQ0:=hid q0;have cK:=fun W=>kidsOf_c o ho.1 ho.2 W
 have e0:decide (r<=0)=false:=decide_eq_false h0;obtain⟨K,hK⟩ : ∃ K,kd o=K:=⟨_,rfl⟩;rw[hK] at cK hk;have e1:((l.length:Int) != K)=false:=by simpa using hk
 have cF:=fun W=>fits_c hL (o:=o) (i:=i) (a:=a) (n:=l.length) (c:=cap) hs W
 rw[hf] at cF;have hz0:W0.heap.size=w.heap.size+1:=by rw[<- hW0];simp
 have HIN:=hid hin
 obtain⟨T,hT⟩ : ∃ T,bhL lf l (r - 1)=T:=⟨_,rfl⟩;rw[hT];have HT:=hid hT;have hwr:IntKind.i64.wrap (r - 1)=r - 1:=by rw[IntKind.wrap_i64];omega
 clear q0 b0 hk hK hf hin hT;go_enter func59,ntmps59;go_wp2_with fail
 clear hW0;go_region_held3 (fun w'=>w'.cell? ⟨w.heap.size,0,none⟩=some (.int .i64 o)/\w'.cell? ⟨w.heap.size,1,none⟩=some (.int .i64 i)/\w'.cell? ⟨w.heap.size,2,none⟩=some (.string s)/\w'.cell? ⟨w.heap.size,3,none⟩=some (.slice a l.length cap)) (go_keep) (first | (go_at_call 82;refine (cK _).mono ?_;rintro e W1 ⟨rfl,rfl⟩) | (go_at_call 83;refine (cF _).mono ?_;rintro e W2 ⟨rfl,b2⟩;have Q2:=(b2.block w.heap.size (show w.heap.size<W0.heap.size by omega)).trans HQ0.out;obtain⟨u0,u1,u2,u3⟩:=four_box Q2) | fail)
 all_goals
  rename_i hHeld
  clear hHeld;have B2:Below w.heap.size w W2:=(HB0.out.trans (Below.refl _ W0).drew).trans (b2.mono HB0.out.size);have HB2:=hid B2;clear B2 b2 Q2 cF cK HB0 HQ0 v0 v1 v2 v3;go_wp2_with fail
  clear u0 u1 u2 u3;go_loopw [31,0] (fun v1 v2 wr=>∃ (q:Nat) (r':Int),v1=.int .i64 q/\v2=.int .i64 r'/\q<=l.length /\ -1<=r'/\r'<=65536/\Below w.heap.size w wr/\bhL lf (l.drop q) r'=T) (fun v1 _ _=>l.length - (intOf v1).toNat)
  case atStart=>exact⟨0,r - 1,rfl,rfl,by omega,by omega,by omega,HB2.out,HT.out⟩
  case round=>
   clear HB2 HT;obtain⟨q,r',rfl,rfl,hq,hr1,hr2,hB,hM⟩:=hrel;have HM:=hid hM;have HBR:=hid hB;have hsz:=hB.size;clear hM hB;by_cases hlt:q<l.length
   ·have d0:decide ((q:Int)<(l.length:Int))=true:=by simp;omega
    have hinl:=HIN.out.keep (w':=wr) (fun b _ hlt=>HBR.out.block b hlt);obtain⟨aa,cc,hsl,-,-,-,-,hLA⟩:=hinl;cases hsl;obtain⟨g,of,u,ha,hSg,hFour,hInq⟩:=XBase.elem_at hLA hlt;subst ha;obtain⟨c0,c1,c2,c3,rfl,d1,d2,d3,d4⟩:=hFour;obtain⟨m',a2,cp2,-,rfl,rfl,rfl,rfl,hob,hib,hsb,-⟩:=hInq.kinds;obtain⟨y,hy⟩ : ∃ y,l[q]=y:=⟨_,rfl⟩;rw[hy] at hInq d1 d2 d3 d4;obtain⟨W4,hW4⟩ : ∃ W4,wr.alloc (.cells #[.int .i64 y.o,.int .i64 y.i,.string y.s,.slice a2 y.l.length cp2] 44)=W4:=⟨_,rfl⟩;have b4:=alB hW4;have q4:=alG hW4;obtain⟨e0',e1',e2',e3'⟩:=four_box q4;have cM:=ih W4 _ y r' (hInq.below b4) hr1 hr2;have hstep:=bhL_cons lf y (l.drop (q+1)) r';have hdrop:l.drop q=y :: l.drop (q+1):=by rw[<- hy];exact List.drop_eq_getElem_cons hlt
    have HST:Hid (bhL lf (l.drop (q+1)) (bhL lf [y] r')=T):=by
     show _=_;rw[<- hstep,<- hdrop];exact HM.out
    have hle:=bhL_le lf _ [y] r' (Nat.le_refl _) hr1;obtain⟨Z,hZ⟩ : ∃ Z,bhL lf [y] r'=Z:=⟨_,rfl⟩;have HST2:Hid (bhL lf (l.drop (q+1)) Z=T):=by rw[<- hZ];exact HST.out
    rw[hZ] at cM hle;have hcapq:=hcap.1;clear hstep hdrop HST hZ hInq q4 hLA HM hob hib hsb;go_wp2_with fail
    refine cM.mono ?_;rintro e W5 ⟨rfl,B5⟩;have HKK:=hid (nx (nx HBR.out b4) B5);clear cM B5 b4 hW4 d1 d2 d3 d4 e0' e1' e2' e3' HBR;go_wp2_with fail
    go_roundw
    case rel=>exact⟨q+1,Z,by go_num,rfl,by omega,by omega,by omega,HKK.out,HST2.out⟩
    case measure=>simp only [intOf];omega
   ·have d0:decide ((q:Int)<(l.length:Int))=false:=by simp;omega
    have hT:r'=T:=by
     have:=HM.out;rw[List.drop_eq_nil_of_le (by omega),bhL_nil] at this;exact this
    subst hT;go_wp2_with fail
    go_ret
    exact⟨rfl,HBR.out⟩
theorem be_all {k:Nat} {lf:Int->Int->ByteArray->Bool} (hL:Lf k lf):∀ m,BI k lf m
 | 0=>by
  intro w v x r h;rw[XBase.In] at h;exact h.elim
 | m+1=>by
  intro w v x r h hr1 hr2;obtain⟨o,i,s,l⟩:=x;rw[XBase.in_iff] at h;obtain⟨lv,rfl,ho,hi,hs,hl⟩:=h;have hl0:=hl;obtain⟨a,cap,rfl,h1,h2,h3,-,-⟩:=hl;by_cases h0:r<=0
  ·rw[bhL_no (.inl h0)]
   exact be_full (lf:=lf) ho (by omega) ⟨h1,h2⟩ hs hr1 hr2 h0
  ·by_cases hk:(l.length:Int)=kd o
   ·cases hf:ft lf o i s with
    | false=>
     rw[bhL_no (.inr (.inr hf))];exact be_unfit ho (by omega) ⟨h1,h2⟩ hs hr1 hr2 hL h0 hk hf
    | true=>
     rw[bhL_one (fun h=>h.elim h0 (fun h=>h.elim (fun h=>h hk) (fun h=>by rw[hf] at h;cases h)))];exact be_go ho (by omega) ⟨h1,h2⟩ hs hr1 hr2 hL (be_all hL m) hl0 h0 hk hf
   ·rw[bhL_no (.inr (.inl hk))]
    exact be_kids (lf:=lf) ho (by omega) ⟨h1,h2⟩ hs hr1 hr2 h0 hk
theorem tree_c {k:Nat} {lf:Int->Int->ByteArray->Bool} (hL:Lf k lf) {m:Nat} {w:World} {v:Value} {x:Ex} {r:Int} (hin:XBase.In false (fun _=>True) w m v x) (h1:0<=r) (h2:r<=65536) :
  Calls prog 42 #[v,.int .i64 r,lfv k] w fun e w'=>e=.returned (.bool (decide (0<=bhL lf [x] r)))/\Below w.heap.size w w':=by
 obtain⟨m',lv,rfl,rfl,-⟩:=hin.shape;have b0:Below w.heap.size w (w.alloc (.cells #[.int .i64 x.o,.int .i64 x.i,.string x.s,lv] 44)):=(Below.refl _ w).alloc (Nat.le_refl _) _;have cB:=be_all hL (m'+1) (w.alloc (.cells #[.int .i64 x.o,.int .i64 x.i,.string x.s,lv] 44)) _ x r (hin.below b0) (by omega) h2;obtain⟨Z,hZ⟩ : ∃ Z,bhL lf [x] r=Z:=⟨_,rfl⟩;rw[hZ] at cB ⊢;clear hZ hL;go_enter func42,ntmps42;go_wp2_with fail
 refine cB.mono ?_;rintro e W1 ⟨rfl,b1⟩;go_wp2_with fail
 go_ret
 exact⟨rfl,nx b0 b1⟩
end Go.Proofs.YtdolgmmldncfkaaGreatDoor.SBe

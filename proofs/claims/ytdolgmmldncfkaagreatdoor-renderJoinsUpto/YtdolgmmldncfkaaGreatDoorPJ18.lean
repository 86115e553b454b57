import Derived.Below
import Derived.BigQuiet
import Derived.Deep.CutBlock
import Derived.Deep.CutRange
import Derived.Deep.RegionHeld3
import Derived.Laws.AppendOwn
import Derived.LoopN
import Derived.LoopTactic
import Derived.Maps.AppendAt
import Derived.ProofKit
import Derived.Test.YtdolgmmldncfkaaGreatDoorProg
import Derived.WalkKit
import Derived.Test.YtdolgmmldncfkaaGreatDoorPJ04
import Derived.Test.YtdolgmmldncfkaaGreatDoorPJ17
open Go.Proofs.Tryz
set_option linter.unusedVariables false
set_option maxRecDepth 20000
set_option maxHeartbeats 6400000
namespace Go.Proofs.YtdolgmmldncfkaaGreatDoor.GEn
open Go.RowKit Base VSm
open VPure hiding evL
abbrev ptr (B:Nat):Value:=.pointer (some ⟨B,0,none⟩)
abbrev wk (Pv mk sv:Value) (r:Int):Array Value:=#[Pv,mk,sv,.int .i64 r]
theorem wk_box {w:World} {B:Nat} {Pv mk sv:Value} {r:Int} (h:w.heap[B]? = some (.cells (wk Pv mk sv r) 82 (0,0))) :
  w.cell? ⟨B,0,none⟩=some Pv/\w.cell? ⟨B,1,none⟩=some mk/\w.cell? ⟨B,2,none⟩=some sv/\w.cell? ⟨B,3,none⟩=some (.int .i64 r):=XBase.four_box h
theorem enter_no {w:World} {B:Nat} {Pv mk sv:Value} (h:w.heap[B]? = some (.cells (wk Pv mk sv 0) 82 (0,0))) :
  Calls prog 74 #[ptr B] w fun e w'=>e=.panicked (pkE 1601)/\w=w':=by
 obtain⟨k0,k1,k2,k3⟩:=wk_box h;unfold pkE;clear h;go_enter func74,ntmps74;go_wp2_with fail
 exact⟨rfl,rfl,rfl⟩
theorem enter_ok {w:World} {B:Nat} {Pv mk sv:Value} {r:Int} (h:w.heap[B]? = some (.cells (wk Pv mk sv r) 82 (0,0))) (hr:0<r/\r<=100000) :
  Calls prog 74 #[ptr B] w fun e w'=>(∃ v,e=.returned v)/\w.setCell ⟨B,3,none⟩ (.int .i64 (r - 1))=w':=by
 obtain⟨k0,k1,k2,k3⟩:=wk_box h;have f3:=frozen_box h 3;have e0:(r == 0)=false:=by simp;omega
 have hw:IntKind.i64.wrap (r - 1)=r - 1:=by rw[IntKind.wrap_i64];omega
 clear h hr;go_enter func74,ntmps74;go_wp2_with fail
 go_end0
 exact⟨⟨_,rfl⟩,rfl⟩
end Go.Proofs.YtdolgmmldncfkaaGreatDoor.GEn
namespace Go.Proofs.YtdolgmmldncfkaaGreatDoor.GAt
open Tak
open Go.RowKit Base EPure JPure VSm VJn VRs GPl GVa GEn
open VPure hiding evL
theorem eight_b {w:World} {B:Nat} {v0 v1 v2 v3 v4 v5 v6 v7:Value} {t:TypeId} (h:w.heap[B]? = some (.cells #[v0,v1,v2,v3,v4,v5,v6,v7] t (0,0))) :
  w.cell? ⟨B,0,none⟩=some v0/\w.cell? ⟨B,1,none⟩=some v1/\w.cell? ⟨B,2,none⟩=some v2/\w.cell? ⟨B,3,none⟩=some v3/\w.cell? ⟨B,4,none⟩=some v4/\w.cell? ⟨B,5,none⟩=some v5/\w.cell? ⟨B,6,none⟩=some v6/\w.cell? ⟨B,7,none⟩=some v7:=by
 refine⟨?_,?_,?_,?_,?_,?_,?_,?_⟩ <;> simp [World.cell?, h]
theorem heap_at (w:World) (o:Obj) (k:Nat) (h:k=w.heap.size):(w.alloc o).heap[k]? = some o:=by subst h;exact heap_alloc_new w o
def aV (c:C):Except Nat (ByteArray × Bool):=if c.k=1 then .ok (⟨#[]⟩,false) else if c.k=2 then .ok (⟨#[]⟩,c.b) else bnd (txt c) fun t=>.ok (t,true)
def atr (L:List C) (p:ByteArray) (b:Bool) (x:Ex):Except Nat (ByteArray × Bool):=if b=true then bnd (ev (rh L) x) aV else .ok (p,true)
abbrev tb2 (a:ByteArray × Bool):Value:=.tuple #[.string a.1,.bool a.2]
theorem attr_c {K m n:Nat} {w:World} {B:Nat} {Pv mk sv:Value} {r:Int} {L:List C} {fn fp:ByteArray} {fb:Bool} {fa:Int} {xa:Option Addr} {xc:Nat} {x:Ex}
  (h:w.heap[B]? = some (.cells (wk Pv mk sv r) 82 (0,0))) (hsk:Sk K (m+1) w Pv L) (hb:fb=true->Rk K m n w Pv L (.agg #[.int .i64 x.o,.int .i64 x.i,.string x.s,.slice xa x.l.length xc]) x) :
  Calls prog 115 #[ptr B,.agg #[.string fn,.string fp,.bool fb,.int .i64 x.o,.int .i64 x.i,.string x.s,.slice xa x.l.length xc,.int .i64 fa]] w fun e w'=>An w w' e tb2 (atr L fp fb x):=by
 obtain⟨ps,pc,rfl,-⟩:=hsk;have hBl:=(Array.getElem?_eq_some_iff.1 h).1;obtain⟨W0,hW0⟩ : ∃ W0,w.alloc (.cells #[.string fn,.string fp,.bool fb,.int .i64 x.o,.int .i64 x.i,.string x.s,.slice xa x.l.length xc,.int .i64 fa] 104)=W0:=⟨_,rfl⟩;have b0:=alB hW0;have hs0:W0.heap.size=w.heap.size+1:=by rw[<- hW0];simp
 have HB0:=hid b0;have HF0:=hid (alG hW0);have HW0:=hid ((b0.block B hBl).trans h);obtain⟨k0,-,-,-⟩:=wk_box HW0.out;obtain⟨f0,f1,f2,f3,f4,f5,f6,f7⟩:=eight_b HF0.out;have HWW:=hid hW0;clear b0 h hW0;cases fb with
 | false=>
  have e0:atr L fp false x=.ok (fp,true):=rfl;rw[e0];clear hb e0;go_enter func115,ntmps115;go_wp2_with fail
  try rw[HWW.out]
  go_ret2
  exact⟨rfl,HB0.out⟩
 | true=>
  have e0:atr L fp true x=bnd (ev (rh L) x) aV:=rfl;rw[e0];obtain⟨A,hA0⟩ : ∃ A,bnd (ev (rh L) x) aV=A:=⟨_,rfl⟩;rw[hA0];have hrk:=hb rfl;have hlow:=hrk.low;have cV:Hid (∀ W,Below w.heap.size w W->Calls prog 111 #[.slice ps L.length pc,.agg #[.int .i64 x.o,.int .i64 x.i,.string x.s,.slice xa x.l.length xc]] W fun e w'=>VR K (m+1) W (ev (rh L) x) e w'):=fun W hW=>value_c (hrk.below hW)
  have cT:Hid (∀ W u c,Below w.heap.size w W->Base.In false (fun b=>b<K) W (m+1) u c->Calls prog 110 #[u] W fun e w'=>An W w' e Value.string (txt c)):=fun W u c hW hu=>GPl.textOf_c hu.plain (hrk.tb.below hW)
  generalize ev (rh L) x=U at *
  have HA:=hid hA0;clear hb e0 hA0 hrk;cases U with
  | error q=>
   have hA:=HA.out;subst hA;go_enter func115,ntmps115;go_wp2_with fail
   try rw[HWW.out]
   refine wp_region_held_drew (S:=fun w'=>w'.cell? ⟨B,0,none⟩=some (.slice ps L.length pc)/\w'.cell? ⟨w.heap.size,3,none⟩=some (.int .i64 x.o)/\w'.cell? ⟨w.heap.size,4,none⟩=some (.int .i64 x.i)/\w'.cell? ⟨w.heap.size,5,none⟩=some (.string x.s)/\w'.cell? ⟨w.heap.size,6,none⟩=some (.slice xa x.l.length xc)) (by kernel_rfl) (by exact⟨k0,f3,f4,f5,f6⟩) (fun hHeld=>?_);refine tkH 0 rfl ?_;try simp only [ptH]
   refine tkH 1 rfl ?_;try simp only [ptH]
   refine tkH 2 rfl ?_;try simp only [ptH]
   refine tkH 3 rfl ?_;try simp only [ptH]
   refine tkH 4 rfl ?_;try simp only [ptH]
   refine tkH 5 rfl ?_;try simp only [ptH]
   refine rdH [6,7] ?_;refine AllReadyH.cons rfl (fun K0 hK=>?_) (AllReadyH.cons rfl (fun K0 hK=>?_) (AllReadyH.nil))
   ·go_simp
    refine (cV.out _ HB0.out.drew).mono ?_;rintro ee Wq ⟨bq,hq⟩;obtain rfl:=hq;exact⟨rfl,rfl,HB0.out.drew.trans (bq.mono (by have:=HB0.out.size;simp;omega))⟩
   ·obtain⟨W1,hW1⟩ : ∃ W,(W0.drew).alloc (.cells #[.int .i64 0,.bool false,.int .i64 0,.string ⟨#[]⟩,.slice none 0 0,.slice none 0 0] 26)=W:=⟨_,rfl⟩
    have hs1:W1.heap.size=W0.heap.size+1:=by rw[<- hW1];simp
    have HZ1:Hid (W1.heap[W0.heap.size]? = some (.cells #[.int .i64 0,.bool false,.int .i64 0,.string ⟨#[]⟩,.slice none 0 0,.slice none 0 0] 26 (0,0))):=by rw[<- hW1];exact heap_at _ _ _ (by simp)
    have b1:Below W0.heap.size W0 W1:=by rw[<- hW1];exact ((Below.refl _ W0).drew).alloc (by simp) _
    have HB1:=hid (nx HB0.out b1);have HW1:=hid ((b1.block B (by omega)).trans HW0.out);have HF1:=hid ((b1.block w.heap.size (by omega)).trans HF0.out);go_simp
    try rw[hW1]
    obtain⟨k0,-,-,-⟩:=wk_box HW1.out;obtain⟨-,-,-,f3,f4,f5,f6,-⟩:=eight_b HF1.out;refine hK.out _ _ (by exact⟨k0,f3,f4,f5,f6⟩) (fun hHeld=>?_);clear hK K0;try simp only [ptH]
    refine rdH [6] ?_;refine alH rfl fun K0 hK=>?_
    go_simp
    refine (cV.out _ HB1.out).mono ?_;rintro ee Wq ⟨bq,hq⟩;obtain rfl:=hq;exact⟨rfl,rfl,nx HB1.out bq⟩
  | ok c=>
   go_enter func115,ntmps115;go_upto_region 3 with fail
   try rw[HWW.out]
   go_cut [6] from 12 to 18 (fun p wc=>∃ R,p=ptr R/\Below w.heap.size w wc/\∃ an ln cn al ll cl,wc.heap[R]? = some (.cells #[.int .i64 c.k,.bool c.b,.int .i64 c.i,.string c.s,.slice an ln cn,.slice al ll cl] 26 (0,0))/\Base.In false (fun b=>b<K) wc (m+1) (vl c.k c.b c.i c.s (.slice an ln cn) (.slice al ll cl)) c)
   case first=>
    refine wp_region_held_drew (S:=fun w'=>w'.cell? ⟨B,0,none⟩=some (.slice ps L.length pc)/\w'.cell? ⟨w.heap.size,3,none⟩=some (.int .i64 x.o)/\w'.cell? ⟨w.heap.size,4,none⟩=some (.int .i64 x.i)/\w'.cell? ⟨w.heap.size,5,none⟩=some (.string x.s)/\w'.cell? ⟨w.heap.size,6,none⟩=some (.slice xa x.l.length xc)) (by kernel_rfl) (by exact⟨k0,f3,f4,f5,f6⟩) (fun hHeld=>?_);refine tkH 0 rfl ?_;try simp only [ptH]
    refine tkH 1 rfl ?_;try simp only [ptH]
    refine tkH 2 rfl ?_;try simp only [ptH]
    refine tkH 3 rfl ?_;try simp only [ptH]
    refine tkH 4 rfl ?_;try simp only [ptH]
    refine tkH 5 rfl ?_;try simp only [ptH]
    refine rdH [6,7] ?_;refine AllReadyH.cons rfl (fun K0 hK=>?_) (AllReadyH.cons rfl (fun K0 hK=>?_) (AllReadyH.nil))
    ·go_simp
     refine (cV.out _ HB0.out.drew).mono ?_;rintro ee W1 ⟨b1,u,rfl,hin⟩;have b1:Below W0.heap.size W0 W1:=(Below.refl _ W0).drew.trans b1;obtain⟨an,ln,cn,al,ll,cl,rfl⟩:=in_shape hin
     have hs1:=b1.size;have HB1:=hid (nx HB0.out b1);have HW1:=hid ((b1.block B (by omega)).trans HW0.out);have HF1:=hid ((b1.block w.heap.size (by omega)).trans HF0.out);have HI1:=hid hin
     obtain⟨k0,-,-,-⟩:=wk_box HW1.out;obtain⟨-,-,-,f3,f4,f5,f6,-⟩:=eight_b HF1.out;refine hK.out _ _ (by exact⟨k0,f3,f4,f5,f6⟩) (fun hHeld=>?_);clear hK K0;try simp only [ptH]
     obtain⟨W2,hW2⟩ : ∃ W,(W1).alloc (.cells #[.int .i64 0,.bool false,.int .i64 0,.string ⟨#[]⟩,.slice none 0 0,.slice none 0 0] 26)=W:=⟨_,rfl⟩;have hs2:W2.heap.size=W1.heap.size+1:=by rw[<- hW2];simp
     have HZ2:Hid (W2.heap[W1.heap.size]? = some (.cells #[.int .i64 0,.bool false,.int .i64 0,.string ⟨#[]⟩,.slice none 0 0,.slice none 0 0] 26 (0,0))):=by rw[<- hW2];exact heap_at _ _ _ (by simp)
     have b2:Below W1.heap.size W1 W2:=by rw[<- hW2];exact ((Below.refl _ W1)).alloc (by simp) _
     have HB2:=hid (nx HB1.out b2);have HI2:=hid (HI1.out.below b2);have HW2:=hid ((b2.block B (by omega)).trans HW1.out);have HF2:=hid ((b2.block w.heap.size (by omega)).trans HF1.out);refine rdH [7] ?_;refine alH rfl fun K0 hK=>?_
     go_simp
     try rw[hW2]
     obtain⟨k0,-,-,-⟩:=wk_box HW2.out;obtain⟨-,-,-,f3,f4,f5,f6,-⟩:=eight_b HF2.out;refine hK.out _ _ (by exact⟨k0,f3,f4,f5,f6⟩) (fun hHeld=>?_);clear hK K0;try simp only [ptH]
     obtain⟨r0,r1,r2,r3,r4,r5⟩:=six_box HZ2.out;have rf0:=frozen_box HZ2.out 0;have rf1:=frozen_box HZ2.out 1;have rf2:=frozen_box HZ2.out 2;have rf3:=frozen_box HZ2.out 3;have rf4:=frozen_box HZ2.out 4;have rf5:=frozen_box HZ2.out 5;obtain⟨W9,hW9⟩:=stc6 W2 W1.heap.size (.int .i64 c.k) (.bool c.b) (.int .i64 c.i) (.string c.s) (.slice an ln cn) (.slice al ll cl);obtain⟨q1,q2,q3,q4⟩:=set6 _ _ _ _ _ _ HZ2.out hW9;have HW9:=hid ((q2 B (by omega)).trans HW2.out);have HF9:=hid ((q2 w.heap.size (by omega)).trans HF2.out);have HI9:Hid (∃ an ln cn al ll cl,W9.heap[W1.heap.size]? = some (.cells #[.int .i64 c.k,.bool c.b,.int .i64 c.i,.string c.s,.slice an ln cn,.slice al ll cl] 26 (0,0))/\Base.In false (fun b=>b<K) W9 (m+1) (vl c.k c.b c.i c.s (.slice an ln cn) (.slice al ll cl)) c):=⟨an,ln,cn,al,ll,cl,q1,HI2.out.keep (fun b hb hb2=>q2 b (by omega))⟩;have HB9:=hid (q4 _ _ (by omega) HB2.out);refine rdH [8] ?_
     refine alH rfl fun K0 hK=>?_
     go_wp2_with fail
     try rw[hW9]
     obtain⟨k0,-,-,-⟩:=wk_box HW9.out;obtain⟨-,-,-,f3,f4,f5,f6,-⟩:=eight_b HF9.out;refine hK.out _ _ (by exact⟨k0,f3,f4,f5,f6⟩) (fun hHeld=>?_);clear hK K0;try simp only [ptH]
     refine dnH ?_;go_wp2_with fail
     go_meet
     case rel=>exact⟨_,rfl,HB9.out,HI9.out⟩
    ·obtain⟨W1,hW1⟩ : ∃ W,(W0.drew).alloc (.cells #[.int .i64 0,.bool false,.int .i64 0,.string ⟨#[]⟩,.slice none 0 0,.slice none 0 0] 26)=W:=⟨_,rfl⟩
     have hs1:W1.heap.size=W0.heap.size+1:=by rw[<- hW1];simp
     have HZ1:Hid (W1.heap[W0.heap.size]? = some (.cells #[.int .i64 0,.bool false,.int .i64 0,.string ⟨#[]⟩,.slice none 0 0,.slice none 0 0] 26 (0,0))):=by rw[<- hW1];exact heap_at _ _ _ (by simp)
     have b1:Below W0.heap.size W0 W1:=by rw[<- hW1];exact ((Below.refl _ W0).drew).alloc (by simp) _
     have HB1:=hid (nx HB0.out b1);have HW1:=hid ((b1.block B (by omega)).trans HW0.out);have HF1:=hid ((b1.block w.heap.size (by omega)).trans HF0.out);go_simp
     try rw[hW1]
     obtain⟨k0,-,-,-⟩:=wk_box HW1.out;obtain⟨-,-,-,f3,f4,f5,f6,-⟩:=eight_b HF1.out;refine hK.out _ _ (by exact⟨k0,f3,f4,f5,f6⟩) (fun hHeld=>?_);clear hK K0;try simp only [ptH]
     refine rdH [6] ?_;refine alH rfl fun K0 hK=>?_
     go_simp
     refine (cV.out _ HB1.out).mono ?_;rintro ee W2 ⟨b2,u,rfl,hin⟩;obtain⟨an,ln,cn,al,ll,cl,rfl⟩:=in_shape hin
     have hs2:=b2.size;have HB2:=hid (nx HB1.out b2);have HW2:=hid ((b2.block B (by omega)).trans HW1.out);have HF2:=hid ((b2.block w.heap.size (by omega)).trans HF1.out);have HI2:=hid hin
     have HZ2:Hid (W2.heap[w.heap.size+1]? = some (.cells #[.int .i64 0,.bool false,.int .i64 0,.string ⟨#[]⟩,.slice none 0 0,.slice none 0 0] 26 (0,0))):=by
      have:=(b2.block W0.heap.size (by omega)).trans HZ1.out;rw[hs0] at this;exact this
     obtain⟨k0,-,-,-⟩:=wk_box HW2.out;obtain⟨-,-,-,f3,f4,f5,f6,-⟩:=eight_b HF2.out;refine hK.out _ _ (by exact⟨k0,f3,f4,f5,f6⟩) (fun hHeld=>?_);clear hK K0;try simp only [ptH]
     obtain⟨r0,r1,r2,r3,r4,r5⟩:=six_box HZ2.out;have rf0:=frozen_box HZ2.out 0;have rf1:=frozen_box HZ2.out 1;have rf2:=frozen_box HZ2.out 2;have rf3:=frozen_box HZ2.out 3;have rf4:=frozen_box HZ2.out 4;have rf5:=frozen_box HZ2.out 5;obtain⟨W9,hW9⟩:=stc6 W2 (w.heap.size+1) (.int .i64 c.k) (.bool c.b) (.int .i64 c.i) (.string c.s) (.slice an ln cn) (.slice al ll cl);obtain⟨q1,q2,q3,q4⟩:=set6 _ _ _ _ _ _ HZ2.out hW9;have HW9:=hid ((q2 B (by omega)).trans HW2.out);have HF9:Hid _:=(q2 w.heap.size (by omega)).trans HF2.out;have HI9:Hid (∃ an ln cn al ll cl,W9.heap[w.heap.size+1]? = some (.cells #[.int .i64 c.k,.bool c.b,.int .i64 c.i,.string c.s,.slice an ln cn,.slice al ll cl] 26 (0,0))/\Base.In false (fun b=>b<K) W9 (m+1) (vl c.k c.b c.i c.s (.slice an ln cn) (.slice al ll cl)) c):=⟨an,ln,cn,al,ll,cl,q1,HI2.out.keep (fun b hb hb2=>q2 b (by omega))⟩;have HB9:Hid (Below w.heap.size w W9):=q4 _ _ (by omega) HB2.out
     refine rdH [8] ?_;refine alH rfl fun K0 hK=>?_
     go_wp2_with fail
     try rw[hW9]
     obtain⟨k0,-,-,-⟩:=wk_box HW9.out;obtain⟨-,-,-,f3,f4,f5,f6,-⟩:=eight_b HF9.out;refine hK.out _ _ (by exact⟨k0,f3,f4,f5,f6⟩) (fun hHeld=>?_);clear hK K0;try simp only [ptH]
     refine dnH ?_;go_wp2_with fail
     go_meet
     case rel=>exact⟨_,rfl,HB9.out,HI9.out⟩
   case rest=>
    obtain⟨R,rfl,hbc,an,ln,cn,al,ll,cl,hx,hin⟩:=hcut;have HBc:Hid (Below w.heap.size w wc):=hbc;obtain⟨n0,n1,n2,n3,n4,n5⟩:=six_box hx;have HA':Hid (aV c=A):=HA.out;have cTx:=cT.out wc _ c hbc hin
    clear hbc hin hx k0 f0 f1 f2 f3 f4 f5 f6 f7 HA;by_cases h1:c.k=1
    ·have e1:(c.k == 1)=true:=by simp [h1]
     have hA:=HA'.out;unfold aV at hA;rw[if_pos h1] at hA;subst hA;clear h1;go_wp2_with fail
     go_ret2
     exact⟨rfl,HBc.out⟩
    have e1:(c.k == 1)=false:=by simp [h1]
    by_cases h2:c.k=2
    ·have e2:(c.k == 2)=true:=by simp [h2]
     have hA:=HA'.out;unfold aV at hA;rw[if_neg h1,if_pos h2] at hA;subst hA;clear h1 h2;go_wp2_with fail
     go_quiet (fail)
     go_wp2_with fail
     go_ret2
     exact⟨rfl,HBc.out.trans ⟨rfl,rfl,rfl,by simp,fun _ _=>by simp⟩⟩
    have e2:(c.k == 2)=false:=by simp [h2]
    have hA:=HA'.out;unfold aV at hA;rw[if_neg h1,if_neg h2] at hA;clear h1 h2 HA';generalize txt c=X at *
    have HA2:=hid hA;clear hA;cases X with
    | error q=>
     have hA:=HA2.out;subst hA;go_wp2_with fail
     refine cTx.mono ?_;rintro ee W5 ⟨rfl,b5⟩;exact⟨rfl,rfl,nx HBc.out b5⟩
    | ok t=>
     have hA:=HA2.out;subst hA;go_wp2_with fail
     refine cTx.mono ?_;rintro ee W5 ⟨rfl,b5⟩;have HB5:=hid (nx HBc.out b5);clear cTx b5;go_wp2_with fail
     go_ret2
     exact⟨rfl,HB5.out⟩
end Go.Proofs.YtdolgmmldncfkaaGreatDoor.GAt
namespace Go.Proofs.YtdolgmmldncfkaaGreatDoor.TBase
open Go.RowKit
structure T where
 mk ::
 (g0:ByteArray) (s0:ByteArray) (n0:List (ByteArray × ByteArray)) (l0:List T)
def T.g:T->ByteArray | .mk g _ _ _=>g
def T.s:T->ByteArray | .mk _ s _ _=>s
def T.n:T->List (ByteArray × ByteArray) | .mk _ _ n _=>n
def T.l:T->List T | .mk _ _ _ l=>l
def room:ByteArray:=⟨#[126,114,111,111,109]⟩
def room4:Value:=.agg #[.string room,.string ⟨#[]⟩,.slice none 0 0,.slice none 0 0]
def room2:ByteArray × ByteArray:=(room,⟨#[]⟩)
def Four (w:World) (g o:Nat) (u:Value):Prop:=
 ∃ v0 v1 v2 v3,u=.agg #[v0,v1,v2,v3]/\w.cell? ⟨g,o,none⟩=some v0/\w.cell? ⟨g,o+1,none⟩=some v1/\w.cell? ⟨g,o+2,none⟩=some v2/\w.cell? ⟨g,o+3,none⟩=some v3
def Two (w:World) (g o:Nat) (t:ByteArray × ByteArray):Prop:=w.cell? ⟨g,o,none⟩=some (.string t.1)/\w.cell? ⟨g,o+1,none⟩=some (.string t.2)
def NAt (r:Bool) (S:Nat->Prop) (w:World) (a:Option Addr) (cap:Nat) (n:List (ByteArray × ByteArray)):Prop:=(n=[]/\r=false) \/ ∃ g o,a=some ⟨g,o,none⟩/\S g/\(∀ j (h:j<n.length),Two w g (o+j*2) n[j]) /\
   (r=true->n.length+2<=cap/\Two w g (o+n.length*2) room2/\Two w g (o+n.length*2+2) room2)
def Ax (r:Bool) (S:Nat->Prop) (w:World) (v:Value) (n:List (ByteArray × ByteArray)):Prop:=
 ∃ a cap,v=.slice a n.length cap/\n.length<=cap/\cap<=9223372036854775807/\n.length*32<=140737488351232/\(∀ t ∈ n,t.1.size<=140737488351232/\t.2.size<=140737488351232)/\(a=none->cap=0)/\NAt r S w a cap n
def In (r:Bool) (S:Nat->Prop) (w:World):Nat->Value->T->Prop
 | 0,_,_=>False
 | m+1,v,.mk g s n l=>∃ nv a cap,v=.agg #[.string g,.string s,nv,.slice a l.length cap] /\
   g.size<=140737488351232/\s.size<=140737488351232/\Ax r S w nv n /\
   l.length<=cap/\cap<=9223372036854775807/\l.length*80<=140737488351232/\(a=none->cap=0) /\
   ((l=[]/\r=false) \/ ∃ g o,a=some ⟨g,o,none⟩/\S g/\(∀ j (h:j<l.length),∃ u,Four w g (o+j*4) u/\In r S w m u l[j]) /\
    (r=true->l.length+2<=cap/\Four w g (o+l.length*4) room4/\Four w g (o+l.length*4+4) room4))
def LAt (r:Bool) (S:Nat->Prop) (w:World) (m:Nat) (a:Option Addr) (cap:Nat) (l:List T):Prop:=(l=[]/\r=false) \/ ∃ g o,a=some ⟨g,o,none⟩/\S g/\(∀ j (h:j<l.length),∃ u,Four w g (o+j*4) u/\In r S w m u l[j]) /\
    (r=true->l.length+2<=cap/\Four w g (o+l.length*4) room4/\Four w g (o+l.length*4+4) room4)
def InL (r:Bool) (S:Nat->Prop) (w:World) (m:Nat) (v:Value) (l:List T):Prop:=
 ∃ a cap,v=.slice a l.length cap/\l.length<=cap/\cap<=9223372036854775807/\l.length*80<=140737488351232/\(a=none->cap=0)/\LAt r S w m a cap l
theorem in_iff {r:Bool} {S:Nat->Prop} {w:World} {m:Nat} {v:Value} {g s:ByteArray} {n:List (ByteArray × ByteArray)} {l:List T} :
  In r S w (m+1) v (.mk g s n l) ↔ ∃ nv lv,v=.agg #[.string g,.string s,nv,lv] /\
   g.size<=140737488351232/\s.size<=140737488351232/\Ax r S w nv n/\InL r S w m lv l:=by
 constructor
 ·intro h
  rw[In] at h;obtain⟨nv,a,cap,h1,h2,h3,h4,h6⟩:=h;exact⟨nv,_,h1,h2,h3,h4,a,cap,rfl,h6⟩
 ·rintro⟨nv,lv,h1,h2,h3,h4,a,cap,rfl,h6⟩
  rw[In];exact⟨nv,a,cap,h1,h2,h3,h4,h6⟩
theorem cell_lt {w:World} {a:Addr} {v:Value} (h:w.cell? a=some v):a.block<w.heap.size:=by
 unfold World.cell? at h;split at h
 ·next hh=>exact (Array.getElem?_eq_some_iff.1 hh).1
 ·cases h
def Keep (S:Nat->Prop) (w w':World):Prop:=∀ b,S b->b<w.heap.size->w'.heap[b]? = w.heap[b]?
theorem Keep.cell {S:Nat->Prop} {w w':World} (h:Keep S w w') {g o:Nat} {v:Value} (hS:S g) (hc:w.cell? ⟨g,o,none⟩=some v):w'.cell? ⟨g,o,none⟩=some v:=
 (World.cell?_of_block (w:=w) (h g hS (cell_lt hc))).trans hc
theorem Keep.four {S:Nat->Prop} {w w':World} (h:Keep S w w') {g o:Nat} {v:Value} (hS:S g) (hc:Four w g o v):Four w' g o v:=by
 obtain⟨v0,v1,v2,v3,rfl,c0,c1,c2,c3⟩:=hc;exact⟨v0,v1,v2,v3,rfl,h.cell hS c0,h.cell hS c1,h.cell hS c2,h.cell hS c3⟩
theorem Keep.two {S:Nat->Prop} {w w':World} (h:Keep S w w') {g o:Nat} {t:ByteArray × ByteArray} (hS:S g) (hc:Two w g o t):Two w' g o t:=⟨h.cell hS hc.1,h.cell hS hc.2⟩
theorem Keep.of_below {S:Nat->Prop} {w w':World} (h:Below w.heap.size w w'):Keep S w w':=fun b _ hb=>h.block b hb
theorem Ax.keep {r:Bool} {S:Nat->Prop} {w w':World} {v:Value} {n:List (ByteArray × ByteArray)} (h:Ax r S w v n) (hk:Keep S w w'):Ax r S w' v n:=by
 obtain⟨a,cap,h1,h2,h3,h4,h5,h6,h7⟩:=h;refine⟨a,cap,h1,h2,h3,h4,h5,h6,?_⟩;rcases h7 with h7|⟨g,o,ha,hS,hc,hr⟩
 ·exact .inl h7
 ·exact .inr ⟨g,o,ha,hS,fun j hj=>hk.two hS (hc j hj),fun hr'=>⟨(hr hr').1,hk.two hS (hr hr').2.1,hk.two hS (hr hr').2.2⟩⟩
theorem InL.keep_of {r:Bool} {S:Nat->Prop} {w w':World} {m:Nat} (ih:∀ (v:Value) (c:T),In r S w m v c->In r S w' m v c) {v:Value} {l:List T} (h:InL r S w m v l) (hk:Keep S w w'):InL r S w' m v l:=by
 obtain⟨a,cap,h1,h2,h3,h4,h5,h6⟩:=h;refine⟨a,cap,h1,h2,h3,h4,h5,?_⟩;rcases h6 with h6|⟨g,o,ha,hS,hc,hr⟩
 ·exact .inl h6
 ·refine .inr ⟨g,o,ha,hS,fun j hj=>?_,fun hr'=>⟨(hr hr').1,hk.four hS (hr hr').2.1,hk.four hS (hr hr').2.2⟩⟩
  obtain⟨u,hu,hi⟩:=hc j hj;exact⟨u,hk.four hS hu,ih _ _ hi⟩
theorem In.keep {r:Bool} {S:Nat->Prop} {w w':World} (hk:Keep S w w'):∀ {m:Nat} {v:Value} {c:T},In r S w m v c->In r S w' m v c:=by
 intro m;induction m with
 | zero=>intro v c h;rw[In] at h;exact h.elim
 | succ m ih=>
  intro v c h;obtain⟨g,s,n,l⟩:=c;rw[in_iff] at h ⊢;obtain⟨nv,lv,h1,h3,h4,h5,h6⟩:=h;exact⟨nv,lv,h1,h3,h4,h5.keep hk,h6.keep_of (fun v c=>ih) hk⟩
theorem InL.keep {r:Bool} {S:Nat->Prop} {w w':World} {m:Nat} {v:Value} {l:List T} (h:InL r S w m v l) (hk:Keep S w w'):InL r S w' m v l:=h.keep_of (fun v c h=>h.keep hk) hk
theorem Ax.below {r:Bool} {S:Nat->Prop} {w w':World} {v:Value} {n:List (ByteArray × ByteArray)} (h:Ax r S w v n) (hk:Below w.heap.size w w'):Ax r S w' v n:=h.keep (.of_below hk)
theorem In.below {r:Bool} {S:Nat->Prop} {w w':World} {m:Nat} {v:Value} {c:T} (h:In r S w m v c) (hk:Below w.heap.size w w'):In r S w' m v c:=h.keep (.of_below hk)
theorem InL.below {r:Bool} {S:Nat->Prop} {w w':World} {m:Nat} {v:Value} {l:List T} (h:InL r S w m v l) (hk:Below w.heap.size w w'):InL r S w' m v l:=h.keep (.of_below hk)
theorem Ax.weak {r:Bool} {S S':Nat->Prop} {w:World} {v:Value} {n:List (ByteArray × ByteArray)} (hS:∀ b,S b->S' b) (r':Bool) (hr:r'=true->r=true) (h:Ax r S w v n):Ax r' S' w v n:=by
 obtain⟨a,cap,h1,h2,h3,h4,h5,h6,h7⟩:=h;refine⟨a,cap,h1,h2,h3,h4,h5,h6,?_⟩;rcases h7 with ⟨h7,h8⟩|⟨g,o,ha,hg,hc,hr0⟩
 ·refine .inl ⟨h7,?_⟩
  cases r' with
  | true=>rw[hr rfl] at h8;cases h8
  | false=>rfl
 ·exact .inr ⟨g,o,ha,hS _ hg,hc,fun h=>hr0 (hr h)⟩
theorem InL.weak_of {r:Bool} {S S':Nat->Prop} {w:World} {m m':Nat} {v:Value} {l:List T} (hS:∀ b,S b->S' b) (r':Bool) (hr:r'=true->r=true) (ih:∀ (v:Value) (c:T),In r S w m v c->In r' S' w m' v c)
  (h:InL r S w m v l):InL r' S' w m' v l:=by
 obtain⟨a,cap,h1,h2,h3,h4,h5,h6⟩:=h;refine⟨a,cap,h1,h2,h3,h4,h5,?_⟩;rcases h6 with ⟨h7,h8⟩|⟨g,o,ha,hg,hc,hr0⟩
 ·refine .inl ⟨h7,?_⟩
  cases r' with
  | true=>rw[hr rfl] at h8;cases h8
  | false=>rfl
 ·refine .inr ⟨g,o,ha,hS _ hg,fun j hj=>?_,fun h=>hr0 (hr h)⟩
  obtain⟨u,hu,hi⟩:=hc j hj;exact⟨u,hu,ih _ _ hi⟩
theorem In.weak {r:Bool} {S S':Nat->Prop} {w:World} (hS:∀ b,S b->S' b) (r':Bool) (hr:r'=true->r=true):∀ {m:Nat} (m':Nat) {v:Value} {c:T},m<=m'->In r S w m v c->In r' S' w m' v c:=by
 intro m;induction m with
 | zero=>intro m' v c _ h;rw[In] at h;exact h.elim
 | succ m ih=>
  intro m' v c hm h;obtain⟨m',rfl⟩ : ∃ q,m'=q+1:=⟨m' - 1,by omega⟩;obtain⟨g,s,n,l⟩:=c;rw[in_iff] at h ⊢;obtain⟨nv,lv,h1,h3,h4,h5,h6⟩:=h;exact⟨nv,lv,h1,h3,h4,h5.weak hS r' hr,h6.weak_of hS r' hr (fun v c h=>ih m' (by omega) h)⟩
theorem InL.weak {r:Bool} {S S':Nat->Prop} {w:World} (hS:∀ b,S b->S' b) (r':Bool) (hr:r'=true->r=true) {m:Nat} (m':Nat) {v:Value} {l:List T} (hm:m<=m') (h:InL r S w m v l):InL r' S' w m' v l:=
 h.weak_of hS r' hr (fun v c h=>h.weak hS r' hr m' hm)
def All:Nat->Prop:=fun _=>True
theorem In.plain {r:Bool} {S:Nat->Prop} {w:World} {m:Nat} {v:Value} {c:T} (h:In r S w m v c):In false All w m v c:=h.weak (fun _ _=>trivial) false (fun h=>by cases h) m (Nat.le_refl _)
theorem four_box {w:World} {B:Nat} {v0 v1 v2 v3:Value} {t:TypeId} (h:w.heap[B]? = some (.cells #[v0,v1,v2,v3] t (0,0))) :
  w.cell? ⟨B,0,none⟩=some v0/\w.cell? ⟨B,1,none⟩=some v1/\w.cell? ⟨B,2,none⟩=some v2/\w.cell? ⟨B,3,none⟩=some v3:=by
 refine⟨?_,?_,?_,?_⟩ <;> simp [World.cell?, h]
theorem nx {a b c:World} (h:Below a.heap.size a b) (k:Below b.heap.size b c):Below a.heap.size a c:=h.trans (k.mono h.size)
theorem add_none (g o j:Nat):(⟨g,o,none⟩ : Addr).add j=⟨g,o+j,none⟩:=by
 unfold Addr.add;split
 ·simp_all
 ·rfl
theorem heap_alloc_new (w:World) (o:Obj):(w.alloc o).heap[w.heap.size]? = some o:=by
 show (w.heap.push o)[w.heap.size]? = _;simp
theorem elem_at {r:Bool} {S:Nat->Prop} {w:World} {m:Nat} {a:Option Addr} {cap:Nat} {l:List T} (hL:LAt r S w m a cap l) {q:Nat} (h:q<l.length) :
  ∃ g o u,a=some ⟨g,o,none⟩/\S g/\Four w g (o+q*4) u/\In r S w m u l[q]:=by
 rcases hL with ⟨rfl,_⟩|⟨g,o,ha,hS,hc,_⟩
 ·simp at h
 ·obtain⟨u,hu,hi⟩:=hc q h
  exact⟨g,o,u,ha,hS,hu,hi⟩
theorem attr_at {r:Bool} {S:Nat->Prop} {w:World} {a:Option Addr} {cap:Nat} {n:List (ByteArray × ByteArray)} (hL:NAt r S w a cap n) {q:Nat} (h:q<n.length) :
  ∃ g o,a=some ⟨g,o,none⟩/\S g/\w.cell? ⟨g,o+q*2,none⟩=some (.string n[q].1)/\w.cell? ⟨g,o+q*2+1,none⟩=some (.string n[q].2):=by
 rcases hL with ⟨rfl,_⟩|⟨g,o,ha,hS,hc,_⟩
 ·simp at h
 ·exact⟨g,o,ha,hS,hc q h⟩
theorem four_below {w w':World} {g o:Nat} {u:Value} (h:Four w g o u) (hb:Below w.heap.size w w'):Four w' g o u:=(Keep.of_below (S:=All) hb).four trivial h
theorem two_below {w w':World} {g o:Nat} {u:ByteArray × ByteArray} (h:Two w g o u) (hb:Below w.heap.size w w'):Two w' g o u:=(Keep.of_below (S:=All) hb).two trivial h
theorem below_cell {w w':World} {g o:Nat} {u:Value} (h:w.cell? ⟨g,o,none⟩=some u) (hb:Below w.heap.size w w'):w'.cell? ⟨g,o,none⟩=some u:=(Keep.of_below (S:=All) hb).cell trivial h
theorem In.shape {r:Bool} {S:Nat->Prop} {w:World} {m:Nat} {v:Value} {c:T} (h:In r S w m v c) :
  ∃ m' nv lv,m=m'+1/\v=.agg #[.string c.g,.string c.s,nv,lv]/\c.g.size<=140737488351232/\c.s.size<=140737488351232/\Ax r S w nv c.n/\InL r S w m' lv c.l:=by
 cases m with
 | zero=>rw[In] at h;exact h.elim
 | succ m=>
  obtain⟨g,s,n,l⟩:=c;rw[in_iff] at h;obtain⟨nv,lv,h⟩:=h;exact⟨m,nv,lv,rfl,h⟩
theorem In.four {r:Bool} {S:Nat->Prop} {w:World} {m:Nat} {v:Value} {c:T} (h:In r S w m v c) :
  ∃ v0 v1 v2 v3,v=.agg #[v0,v1,v2,v3]/\∀ u ∈ [v0,v1,v2,v3],u.oneCell'=true:=by
 obtain⟨m',nv,lv,-,rfl,-,-,⟨a,ca,rfl,-⟩,⟨a',ca',rfl,-⟩⟩:=h.shape;refine⟨_,_,_,_,rfl,?_⟩;intro u hu;simp at hu
 rcases hu with rfl|rfl|rfl|rfl <;> rfl
theorem In.kinds {r:Bool} {S:Nat->Prop} {w:World} {m:Nat} {x0 x1 x2 x3:Value} {c:T} (h:In r S w m (.agg #[x0,x1,x2,x3]) c) :
  ∃ m' a1 c1 a2 c2,m=m'+1/\x0=.string c.g/\x1=.string c.s/\x2=.slice a1 c.n.length c1/\x3=.slice a2 c.l.length c2/\c.g.size<=140737488351232/\c.s.size<=140737488351232/\Ax r S w (.slice a1 c.n.length c1) c.n/\InL r S w m' (.slice a2 c.l.length c2) c.l:=by
 obtain⟨m',nv,lv,hm,e,hg,hs,hn,hl⟩:=h.shape;simp only [Value.agg.injEq, Array.mk.injEq, List.cons.injEq, and_true] at e;obtain⟨rfl,rfl,rfl,rfl⟩:=e;have hn0:=hn;have hl0:=hl;obtain⟨a1,c1,rfl,-⟩:=hn;obtain⟨a2,c2,rfl,-⟩:=hl;exact⟨m',a1,c1,a2,c2,hm,rfl,rfl,rfl,rfl,hg,hs,hn0,hl0⟩
def Rg (lo hi:Nat):Nat->Prop:=fun b=>lo<=b/\b<hi
end Go.Proofs.YtdolgmmldncfkaaGreatDoor.TBase

import Derived.Test.YtdolgmmldncfkaaGreatDoorPJ37
import Derived.Test.YtdolgmmldncfkaaGreatDoorPJ45
import Derived.Test.YtdolgmmldncfkaaGreatDoorPJ47
import Derived.Test.YtdolgmmldncfkaaGreatDoorPJ48
import Derived.Test.YtdolgmmldncfkaaGreatDoorPJ49
open Go.Proofs.Tryz
set_option linter.unusedVariables false
set_option maxRecDepth 20000
set_option maxHeartbeats 12800000
namespace Go.Proofs.YtdolgmmldncfkaaGreatDoor.WRJ
open Tak
open Go.RowKit Base KBase VJn VRs GRe GRn GAw GRa GRj
open VPure hiding evL
open TBase (T)
theorem walk_of {ma mb m:Nat} {va vb v:Value} {a b:List Co} {c:C} {w:World} {A B J:Except Nat (List T)} (hA:KBase.InL false (fun b=>b<w.heap.size) w ma va a) (hB:KBase.InL false (fun b=>b<w.heap.size) w mb vb b) (hin:Base.In false (fun b=>b<w.heap.size) w (m+1) v c) (hT:Digits.Tab w)
  (la:a.length<=1048576) (lb:b.length<=1048576) (eA:rnd a c=A) (eB:rnd b c=B) (eJ:rnd (a ++ b) c=J) (hne:(∀ q,A=.error q->q≠0)/\∀ q,B=.error q->q≠0) (hJ:∀ F G,A=.ok F->B=.ok G->J=.ok (F ++ G)\/J=.error 1504\/J=.error 1601) :
  Calls prog 3 #[va,vb,v] w fun e w'=>e=.returned (.bool true)/\Below w.heap.size w w':=by
 have ht:Tb w:=fun W hW=>hT.later hW
 obtain⟨an,ln,cn,al,ll,cl,rfl⟩:=VRs.in_shape hin
 have HT:Hid (Tb w):=ht;have HA:Hid (∀ W,Below w.heap.size w W->KBase.InL false (fun b=>b<W.heap.size) W ma va a):=fun W hW=>(hA.keep (w':=W) (fun b hb _=>hW.block b hb)).weak (fun b hb=>Nat.lt_of_lt_of_le hb hW.size) false id ma (Nat.le_refl _)
 have HB:Hid (∀ W,Below w.heap.size w W->KBase.InL false (fun b=>b<W.heap.size) W mb vb b):=fun W hW=>(hB.keep (w':=W) (fun b hb _=>hW.block b hb)).weak (fun b hb=>Nat.lt_of_lt_of_le hb hW.size) false id mb (Nat.le_refl _)
 have HV:Hid (∀ W,Below w.heap.size w W->Base.In false (fun b=>b<W.heap.size) W (m+1) (.agg #[.int .i64 c.k,.bool c.b,.int .i64 c.i,.string c.s,.slice an ln cn,.slice al ll cl]) c):=fun W hW=>(hin.keep (w':=W) (fun b hb _=>hW.block b hb)).weak (fun b hb=>Nat.lt_of_lt_of_le hb hW.size) false id _ (Nat.le_refl _)
 have HA':Hid (∀ W,Below w.heap.size w W->KBase.InL false (fun _=>True) W ma va a):=fun W hW=>(HA.out W hW).weak (fun _ _=>trivial) false id ma (Nat.le_refl _)
 have HB':Hid (∀ W,Below w.heap.size w W->KBase.InL false (fun _=>True) W mb vb b):=fun W hW=>(HB.out W hW).weak (fun _ _=>trivial) false id mb (Nat.le_refl _)
 have HV':Hid (∀ W,Below w.heap.size w W->Base.In false (fun _=>True) W (m+1) (.agg #[.int .i64 c.k,.bool c.b,.int .i64 c.i,.string c.s,.slice an ln cn,.slice al ll cl]) c):=fun W hW=>(HV.out W hW).weak (fun _ _=>trivial) false id _ (Nat.le_refl _)
 obtain⟨i0,hi,hz0,hz1,hz2⟩:=XLend.info_parts KCq.infoCore;have cRa:Hid (∀ W,Below w.heap.size w W->Calls prog 7 #[va,(.agg #[.int .i64 c.k,.bool c.b,.int .i64 c.i,.string c.s,.slice an ln cn,.slice al ll cl])] W fun e w'=>RR W A e w'):=fun W hW=>by rw[<- eA];exact render_all (HA.out W hW) (HV.out W hW) (HT.out.below hW)
 have cRb:Hid (∀ W,Below w.heap.size w W->Calls prog 7 #[vb,(.agg #[.int .i64 c.k,.bool c.b,.int .i64 c.i,.string c.s,.slice an ln cn,.slice al ll cl])] W fun e w'=>RR W B e w'):=fun W hW=>by rw[<- eB];exact render_all (HB.out W hW) (HV.out W hW) (HT.out.below hW)
 obtain⟨W0,hW0⟩ : ∃ W,w.alloc (.cells #[.int .i64 c.k,.bool c.b,.int .i64 c.i,.string c.s,.slice an ln cn,.slice al ll cl] 26)=W:=⟨_,rfl⟩;have b0:Below w.heap.size w W0:=by rw[<- hW0];exact (Below.refl _ w).alloc (Nat.le_refl _) _
 have s0:w.heap.size<W0.heap.size:=by rw[<- hW0];simp
 have g0:W0.heap[w.heap.size]? = some (.cells #[.int .i64 c.k,.bool c.b,.int .i64 c.i,.string c.s,.slice an ln cn,.slice al ll cl] 26 (0,0)):=by rw[<- hW0];exact heap_alloc_new w _
 have HG:Hid (∀ W,Below W0.heap.size W0 W->W.heap[w.heap.size]? = some (.cells #[.int .i64 c.k,.bool c.b,.int .i64 c.i,.string c.s,.slice an ln cn,.slice al ll cl] 26 (0,0))):=fun W hW=>(hW.block _ s0).trans g0
 have HU:Hid (∀ W,Below W0.heap.size W0 W->Below w.heap.size w W):=fun W hW=>b0.trans (hW.mono b0.size)
 have cW:=awake_c W0 (ht.below b0);have cN:∀ (x:Int) (W:World),Calls prog 9 #[.int .i64 x] W fun e w'=>e=.returned (.int .i64 x)/\W=w':=numE_c
 have HJ:Hid _:=hJ;have HNE:Hid _:=hne;have EJ:Hid _:=eJ;have EA:Hid _:=eA;have EB:Hid _:=eB;obtain⟨aa,na,ca,rfl⟩ : ∃ x y z,va=.slice x y z:=by obtain⟨x,y,rfl,-⟩:=hA;exact⟨_,_,_,rfl⟩
 obtain⟨ab,nb,cb,rfl⟩ : ∃ x y z,vb=.slice x y z:=by obtain⟨x,y,rfl,-⟩:=hB;exact⟨_,_,_,rfl⟩
 clear ht hT hin hA hB eA eB eJ hJ hne b0 g0;go_enter func3,ntmps3;go_wp2_with fail
 try rw[hW0]
 refine cW.mono ?_;rintro e W1 ⟨rfl,b1⟩;have cS:=WSh.shallow2_c (HA'.out W1 (HU.out W1 b1)) (HV'.out W1 (HU.out W1 b1));obtain⟨x0,x1,x2,x3,x4,x5⟩:=Base.six_box (HG.out W1 b1);have H1:Hid (Below W0.heap.size W0 W1):=b1;clear cW b1 hW0;go_wp2_with fail
 refine cS.mono ?_;rintro e W2 ⟨⟨sb,rfl⟩,b2⟩;have H2:Hid (Below W0.heap.size W0 W2):=H1.out.trans (b2.mono H1.out.size);clear b2 cS x0 x1 x2 x3 x4 x5;cases sb
 ·go_wp2_with fail
  go_ret
  exact⟨rfl,HU.out W2 H2.out⟩
 have cS:=KSx.shallow_c (HB'.out W2 (HU.out W2 H2.out));go_wp2_with fail
 refine cS.mono ?_;rintro e W3 ⟨⟨sb,rfl⟩,b3⟩;have H3:Hid (Below W0.heap.size W0 W3):=H2.out.trans (b3.mono H2.out.size);clear b3 cS;cases sb
 ·go_wp2_with fail
  go_ret
  exact⟨rfl,HU.out W3 H3.out⟩
 have c3:=cRa.out W3 (HU.out W3 H3.out);obtain⟨x0,x1,x2,x3,x4,x5⟩:=Base.six_box (HG.out W3 H3.out);go_wp2_with fail
 refine c3.mono ?_;rintro e W4 ⟨b4,hAns⟩;have H4:Hid (Below W0.heap.size W0 W4):=H3.out.trans (b4.mono H3.out.size);have H44:Hid (Below W3.heap.size W3 W4):=b4;obtain⟨ta,nta,cta,za,rfl⟩ : ∃ x y z q,e=.returned (.tuple #[.slice x y z,.int .i64 q]):=by
  cases A with
  | ok F=>obtain⟨mt,tv,rfl,⟨x,y,rfl,-⟩⟩:=hAns;exact⟨_,_,_,_,rfl⟩
  | error q=>obtain rfl:=hAns;exact⟨_,_,_,_,rfl⟩
 have HAns:Hid _:=hAns;clear b4 c3 hAns x0 x1 x2 x3 x4 x5;have c4:=cRb.out W4 (HU.out W4 H4.out);obtain⟨x0,x1,x2,x3,x4,x5⟩:=Base.six_box (HG.out W4 H4.out);go_wp2_with fail
 refine c4.mono ?_;rintro e W5 ⟨b5,hAns⟩;have H5:Hid (Below W0.heap.size W0 W5):=H4.out.trans (b5.mono H4.out.size);have H45:Hid (Below W4.heap.size W4 W5):=b5;obtain⟨tb,ntb,ctb,zb,rfl⟩ : ∃ x y z q,e=.returned (.tuple #[.slice x y z,.int .i64 q]):=by
  cases B with
  | ok F=>obtain⟨mt,tv,rfl,⟨x,y,rfl,-⟩⟩:=hAns;exact⟨_,_,_,_,rfl⟩
  | error q=>obtain rfl:=hAns;exact⟨_,_,_,_,rfl⟩
 have HBns:Hid _:=hAns;clear b5 c4 hAns x0 x1 x2 x3 x4 x5;have H5d:Hid (Below W0.heap.size W0 W5.drew):=H5.out.drew;have HX:Hid (∀ W,Below W0.heap.size W0 W->(W.cell? ⟨w.heap.size,0,none⟩=some (.int .i64 c.k)/\W.cell? ⟨w.heap.size,1,none⟩=some (.bool c.b)/\W.cell? ⟨w.heap.size,2,none⟩=some (.int .i64 c.i)/\W.cell? ⟨w.heap.size,3,none⟩=some (.string c.s)/\W.cell? ⟨w.heap.size,4,none⟩=some (.slice an ln cn)/\W.cell? ⟨w.heap.size,5,none⟩=some (.slice al ll cl))):=fun W hW=>Base.six_box (HG.out W hW)
 have cO:=KRj.copyO_c (w:=W5.drew) (HA'.out _ (HU.out _ H5d.out));go_wp2_with fail
 refine wp_region_held_drew (S:=fun W=>(W.cell? ⟨w.heap.size,0,none⟩=some (.int .i64 c.k)/\W.cell? ⟨w.heap.size,1,none⟩=some (.bool c.b)/\W.cell? ⟨w.heap.size,2,none⟩=some (.int .i64 c.i)/\W.cell? ⟨w.heap.size,3,none⟩=some (.string c.s)/\W.cell? ⟨w.heap.size,4,none⟩=some (.slice an ln cn)/\W.cell? ⟨w.heap.size,5,none⟩=some (.slice al ll cl))) (by kernel_rfl) (HX.out _ H5d.out) (fun hHeld=>?_);refine tkH 0 rfl ?_;try simp only [ptH]
 refine tkH 2 rfl ?_;try simp only [ptH]
 refine tkH 5 rfl ?_;try simp only [ptH]
 refine rdH [1] ?_;refine alH rfl fun K0 hK=>?_
 go_simp
 refine cO.mono ?_;rintro e W6 ⟨u1,us1,rfl,ho1,hl1,hk1,b6⟩;have H6:Hid (Below W0.heap.size W0 W6):=H5d.out.trans (b6.mono H5d.out.size);have K6:Hid (Below W5.heap.size W5 W6):=((Below.refl _ W5).drew).trans (b6.mono (Nat.le_refl _));have HO1:Hid (KRn.OwnN W6 W5.drew.heap.size 42 7 u1 us1):=ho1;have Hl1:Hid (us1.length=a.length):=hl1;have hs6:=b6.size;have cO2:=KRj.copyO_c (w:=W6) (HB'.out _ (HU.out _ H6.out));clear cO ho1 hl1 b6;go_wp2_with fail
 refine hK.out _ _ (HX.out _ H6.out) (fun hHeld=>?_);clear hK K0;try simp only [ptH]
 refine rdH [3] ?_;refine alH rfl fun K0 hK=>?_
 go_simp
 refine cO2.mono ?_;rintro e W7 ⟨u2,us2,rfl,ho2,hl2,hk2,b7⟩;have H7:Hid (Below W0.heap.size W0 W7):=H6.out.trans (b7.mono H6.out.size);have H67:Hid (Below W6.heap.size W6 W7):=b7;have K7:Hid (Below W5.heap.size W5 W7):=K6.out.trans (b7.mono K6.out.size);have HO2:Hid (KRn.OwnN W7 W6.heap.size 42 7 u2 us2):=ho2;have Hl2:Hid (us2.length=b.length):=hl2;have hs7:=b7.size;have hrow:=XLend.own_below HO1.out.1 b7;have hfl:(XLend.flat us2).length=us2.length*7:=KRn.flat_len HO2.out.2;have hone:=KRj.flat_one HO2.out.2;have hbnd:us1.length<=1048576/\us2.length<=1048576:=by have:=Hl1.out;have:=Hl2.out;omega
 have hrow2:=HO2.out.1;clear cO2 ho2 hl2 b7;go_wp2_with fail
 refine hK.out _ _ (HX.out _ H7.out) (fun hHeld=>?_);clear hK K0;try simp only [ptH]
 refine rdH [4] ?_;refine alH rfl fun K0 hK=>?_
 refine WAp.step_rows rfl _ _ 22 rfl W5.drew.heap.size 42 i0 (.agg #[.int .i64 0,.string ⟨#[]⟩,.slice none 0 0,.slice none 0 0,.slice none 0 0,.slice none 0 0,.slice none 0 0]) 7 144 underlying22 hi hz0 hz1 hz2 rfl (by decide) hrow hrow2 hfl hone (by unfold maxLen;omega) (by omega) (by omega) rfl rfl ?_;intro jv W8 hown hgrow;have HIC:Hid (KBase.InL false (fun b=>b<W8.heap.size) W8 (max ma mb) jv (a ++ b)):=(KBase.InL.low (KRj.joined (w:=W5.drew) HO1.out Hl1.out hk1.out H67.out HO2.out Hl2.out hk2.out hown hgrow (by rw[List.length_append];have:=Hl1.out;have:=Hl2.out;omega))).weak (fun _ h=>h.2) false id _ (Nat.le_refl _);have H8:Hid (Below W0.heap.size W0 W8):=H7.out.grown hgrow (by have:=H5d.out.size;omega) (fun k hk=>by have:=(World.ownsRow.lt hrow k hk).1;have:=H5d.out.size;omega);have K8:Hid (Below W5.heap.size W5 W8):=K7.out.grown hgrow K7.out.size (fun k hk=>(World.ownsRow.lt hrow k hk).1)
 obtain⟨ja,nj,cj,rfl⟩ : ∃ x y z,jv=.slice x y z:=by obtain⟨x,y,rfl,-⟩:=HIC.out;exact⟨_,_,_,rfl⟩
 have cJ:Hid (Calls prog 7 #[.slice ja nj cj,(.agg #[.int .i64 c.k,.bool c.b,.int .i64 c.i,.string c.s,.slice an ln cn,.slice al ll cl])] W8 fun e w'=>RR W8 J e w'):=by rw[<- EJ.out];exact render_all HIC.out (HV.out _ (HU.out _ H8.out)) (HT.out.below (HU.out _ H8.out))
 clear hrow hrow2 hk1 hk2 HO1 HO2 hown hgrow hone hfl;refine hK.out _ _ (HX.out _ H8.out) (fun hHeld=>?_);clear hK K0;try simp only [ptH]
 refine rdH [6] ?_;refine alH rfl fun K0 hK=>?_
 go_simp
 refine cJ.out.mono ?_;rintro e W9 ⟨b9,hAns⟩;have H9:Hid (Below W0.heap.size W0 W9):=H8.out.trans (b9.mono H8.out.size);obtain⟨tj,ntj,ctj,zj,rfl⟩ : ∃ x y z q,e=.returned (.tuple #[.slice x y z,.int .i64 q]):=by
  cases J with
  | ok F=>obtain⟨mt,tv,rfl,⟨x,y,rfl,-⟩⟩:=hAns;exact⟨_,_,_,_,rfl⟩
  | error q=>obtain rfl:=hAns;exact⟨_,_,_,_,rfl⟩
 have HJns:Hid _:=hAns;have K9:Hid (Below W5.heap.size W5 W9):=K8.out.trans (b9.mono K8.out.size);clear b9 hAns cJ;go_wp2_with fail
 refine hK.out _ _ (HX.out _ H9.out) (fun hHeld=>?_);clear hK K0;try simp only [ptH]
 refine tkH 7 rfl ?_;try simp only [ptH]
 refine tkH 8 rfl ?_;try simp only [ptH]
 refine tkH 9 rfl ?_;try simp only [ptH]
 refine tkH 10 rfl ?_;try simp only [ptH]
 refine tkH 11 rfl ?_;try simp only [ptH]
 refine dnH ?_;clear hHeld;have hza:(∃ q:Nat,q≠0/\A=.error q/\za=q) \/ ∃ F mt,A=.ok F/\za=0/\TBase.InL false (fun _=>True) W4 mt (.slice ta nta cta) F:=by
  have h:=HAns.out;cases A with
  | ok F=>obtain⟨mt,tv,h1,h2⟩:=h;cases h1;exact .inr ⟨F,mt,rfl,rfl,h2⟩
  | error q=>cases h;exact .inl ⟨q,HNE.out.1 q rfl,rfl,rfl⟩
 have hzb:(∃ q:Nat,q≠0/\B=.error q/\zb=q) \/ ∃ F mt,B=.ok F/\zb=0/\TBase.InL false (fun _=>True) W5 mt (.slice tb ntb ctb) F:=by
  have h:=HBns.out;cases B with
  | ok F=>obtain⟨mt,tv,h1,h2⟩:=h;cases h1;exact .inr ⟨F,mt,rfl,rfl,h2⟩
  | error q=>cases h;exact .inl ⟨q,HNE.out.2 q rfl,rfl,rfl⟩
 clear HAns HBns;rcases hza with ⟨q,hq,-,rfl⟩|⟨F,mF,rfl,rfl,hF⟩
 ·have hq1:((q:Int) == 0)=false:=by simp [hq]
  go_wp2_with fail
  refine (cN _ _).mono ?_;rintro e w9 ⟨rfl,rfl⟩;go_wp2_with fail
  go_ret
  exact⟨rfl,HU.out _ H9.out⟩
 rcases hzb with ⟨q,hq,-,rfl⟩|⟨G,mG,rfl,rfl,hG⟩
 ·have hq1:((q:Int) == 0)=false:=by simp [hq]
  go_wp2_with fail
  refine (cN _ _).mono ?_;rintro e w9 ⟨rfl,rfl⟩;go_wp2_with fail
  refine (cN _ _).mono ?_;rintro e w9 ⟨rfl,rfl⟩;go_wp2_with fail
  go_ret
  exact⟨rfl,HU.out _ H9.out⟩
 have HF:Hid (TBase.InL false (fun _=>True) W4 mF (.slice ta nta cta) F):=hF;have HGG:Hid (TBase.InL false (fun _=>True) W5 mG (.slice tb ntb ctb) G):=hG;clear hF hG;go_wp2_with fail
 refine (cN _ _).mono ?_;rintro e w9 ⟨rfl,rfl⟩;go_wp2_with fail
 refine (cN _ _).mono ?_;rintro e w9 ⟨rfl,rfl⟩;rcases HJ.out F G rfl rfl with rfl|rfl|rfl
 rotate_left 1
 ·obtain rfl:zj=1504:=by have h:=HJns.out;cases h;rfl
  go_wp2_with fail
  refine (cN _ _).mono ?_;rintro e w9 ⟨rfl,rfl⟩;go_wp2_with fail
  refine (cN _ _).mono ?_;rintro e w9 ⟨rfl,rfl⟩;go_wp2_with fail
  go_ret
  exact⟨rfl,HU.out _ H9.out⟩
 ·obtain rfl:zj=1601:=by have h:=HJns.out;cases h;rfl
  go_wp2_with fail
  refine (cN _ _).mono ?_;rintro e w9 ⟨rfl,rfl⟩;go_wp2_with fail
  refine (cN _ _).mono ?_;rintro e w9 ⟨rfl,rfl⟩;go_wp2_with fail
  refine (cN _ _).mono ?_;rintro e w9 ⟨rfl,rfl⟩;go_wp2_with fail
  go_ret
  exact⟨rfl,HU.out _ H9.out⟩
 obtain⟨mJ,rfl,hJ9⟩ : ∃ mJ,zj=0/\TBase.InL false TBase.All W9 mJ (.slice tj ntj ctj) (F ++ G):=by
  obtain⟨mt,tv,h1,h2⟩:=HJns.out;cases h1;exact⟨mt,rfl,h2⟩
 obtain⟨mm,hmm⟩ : ∃ mm,max mF (max mG mJ)=mm:=⟨_,rfl⟩;have hlen:(F ++ G).length*80<=140737488351232:=by obtain⟨_,_,_,_,_,h,_⟩:=hJ9;exact h
 rw[List.length_append] at hlen;have HF9:Hid (∀ W,Below W9.heap.size W9 W->TBase.InL false TBase.All W mm (.slice ta nta cta) F):=fun W hW=>((HF.out.weak (S':=TBase.All) (fun _ _=>trivial) false id mm (by omega)).below (H45.out.trans (K9.out.mono H45.out.size))).below hW
 have HG9:Hid (∀ W,Below W9.heap.size W9 W->TBase.InL false TBase.All W mm (.slice tb ntb ctb) G):=fun W hW=>((HGG.out.weak (S':=TBase.All) (fun _ _=>trivial) false id mm (by omega)).below K9.out).below hW
 have HJ9:Hid (∀ W,Below W9.heap.size W9 W->TBase.InL false TBase.All W mm (.slice tj ntj ctj) (F ++ G)):=fun W hW=>(hJ9.weak (S':=TBase.All) (fun _ _=>trivial) false id mm (by omega)).below hW
 have Hlen:Hid (F.length+G.length<=1759218604390):=by show _<=_;omega
 clear hJ9 hlen HJns HF HGG hmm HJ HNE;have cT:=TRowJ.copyO_c mm _ F W9 (HF9.out W9 (Below.refl _ _));go_wp2_with fail
 refine (cN _ _).mono ?_;rintro e w9 ⟨rfl,rfl⟩;go_wp2_with fail
 refine cT.mono ?_;rintro e V1 ⟨u1,us1,rfl,ho1,hl1,hk1,b1⟩;have L1:Hid (Below W9.heap.size W9 V1):=b1;have HO1:Hid (TBase.OwnV V1 W9.heap.size u1 us1):=ho1;have Hl1:Hid (us1.length=F.length):=hl1;have hs1:=b1.size;have cT2:=TRowJ.copyO_c mm _ G V1 (HG9.out V1 b1);clear cT ho1 hl1 b1;go_wp2_with fail
 refine cT2.mono ?_;rintro e V2 ⟨u2,us2,rfl,ho2,hl2,hk2,b2⟩;have L2:Hid (Below W9.heap.size W9 V2):=L1.out.trans (b2.mono L1.out.size);have L12:Hid (Below V1.heap.size V1 V2):=b2;have HO2:Hid (TBase.OwnV V2 V1.heap.size u2 us2):=ho2;have Hl2:Hid (us2.length=G.length):=hl2;have hs2:=b2.size;have hrow:=XLend.own_below HO1.out.1 b2;have hrow2:=HO2.out.1;have hfl:(TBase.flat us2).length=us2.length*4:=TBase.flat_len HO2.out.2;have hone:=TRowJ.flat_one HO2.out.2;have hbnd:us1.length+us2.length<=1759218604390:=by have:=Hl1.out;have:=Hl2.out;have:=Hlen.out;omega
 obtain⟨a1',c1',hsh⟩ : ∃ a c,u1=.slice a us1.length c:=by
  rcases HO1.out.1.2 with ⟨h0,h1⟩|⟨g,cp,cu,h0,-⟩
  ·exact⟨none,0,by rw[h1];exact h0⟩
  ·exact⟨_,_,h0⟩
 obtain⟨a2',c2',hsh2⟩ : ∃ a c,u2=.slice a us2.length c:=by
  rcases HO2.out.1.2 with ⟨h0,h1⟩|⟨g,cp,cu,h0,-⟩
  ·exact⟨none,0,by rw[h1];exact h0⟩
  ·exact⟨_,_,h0⟩
 subst hsh;subst hsh2;obtain⟨j0,hj,hy0,hy1,hy2⟩:=XLend.info_parts TBase.infoT;clear cT2 ho2 hl2 b2;go_wp2_with (first
  | (at_builtin;refine WAp.app_row rfl _ _ 30 rfl W9.heap.size 47 j0 (.agg #[.string ⟨#[]⟩,.string ⟨#[]⟩,.slice none 0 0,.slice none 0 0]) 4 80 underlying30 hj hy0 hy1 hy2 rfl (by decide) _ _ _ rfl hrow V1.heap.size _ us2.length (TBase.flat us2) rfl hrow2 hfl hone (by unfold maxLen;omega) (by omega) (by omega) ?_))
 intro jv V3 hown hgrow;have HT3:Hid (TBase.InL false TBase.All V3 mm jv (F ++ G)):=TRowJ.joined (w:=W9) HO1.out Hl1.out hk1.out L12.out HO2.out Hl2.out hk2.out hown hgrow (by rw[List.length_append];have:=Hlen.out;omega);have L3:Hid (Below W9.heap.size W9 V3):=L2.out.grown hgrow L2.out.size (fun k hk=>(World.ownsRow.lt hrow k hk).1);obtain⟨xa',xn',xc',rfl⟩ : ∃ x y z,jv=.slice x y z:=by obtain⟨x,y,h,-⟩:=HT3.out;exact⟨_,_,_,h⟩
 have cSm:=TSame.same_c mm _ _ (F ++ G) (F ++ G) V3 (HJ9.out V3 L3.out) HT3.out;rw[TSr.sm_self] at cSm;clear hrow hrow2 hk1 hk2 HO1 HO2 hown hgrow hone hfl;go_wp2_with fail
 refine cSm.mono ?_;rintro e V4 ⟨rfl,b4⟩;have L4:Hid (Below W9.heap.size W9 V4):=L3.out.trans (b4.mono L3.out.size);clear b4 cSm;obtain⟨V5,hV5⟩ : ∃ V,((V4.alloc (.cells #[.int .i64 3,.int .i64 0,.string ⟨#[]⟩,.slice none 0 0] 44)).alloc (.cells #[.int .i64 2,.int .i64 0,.string ⟨#[]⟩,.slice none 0 0] 44)).alloc (.cells (WAr.arV (.slice aa na ca) (.slice ab nb cb) V4.heap.size) 42)=V:=⟨_,rfl⟩;have b5:Below V4.heap.size V4 V5:=by rw[<- hV5];exact (((Below.refl _ V4).alloc (Nat.le_refl _) _).alloc (by simp) _).alloc (by simp <;> omega) _
 have s5:V5.heap.size=V4.heap.size+3:=by rw[<- hV5];simp
 have z0:V5.heap[V4.heap.size]? = some (.cells #[.int .i64 3,.int .i64 0,.string ⟨#[]⟩,.slice none 0 0] 44 (0,0)):=by rw[<- hV5,Below.heap_alloc _ _ _ (by simp <;> omega),Below.heap_alloc _ _ _ (by simp),heap_alloc_new]
 have z1:V5.heap[V4.heap.size+1]? = some (.cells #[.int .i64 2,.int .i64 0,.string ⟨#[]⟩,.slice none 0 0] 44 (0,0)):=by
  rw[<- hV5,Below.heap_alloc _ _ _ (by simp)];have:=heap_alloc_new (V4.alloc (.cells #[.int .i64 3,.int .i64 0,.string ⟨#[]⟩,.slice none 0 0] 44)) (.cells #[.int .i64 2,.int .i64 0,.string ⟨#[]⟩,.slice none 0 0] 44);rwa [World.size_alloc] at this
 have z2:V5.heap[V4.heap.size+2]? = some (.cells (WAr.arV (.slice aa na ca) (.slice ab nb cb) V4.heap.size) 42 (0,0)):=by
  rw[<- hV5];have:=heap_alloc_new ((V4.alloc (.cells #[.int .i64 3,.int .i64 0,.string ⟨#[]⟩,.slice none 0 0] 44)).alloc (.cells #[.int .i64 2,.int .i64 0,.string ⟨#[]⟩,.slice none 0 0] 44)) (.cells (WAr.arV (.slice aa na ca) (.slice ab nb cb) V4.heap.size) 42);rwa [World.size_alloc,World.size_alloc] at this
 have L5:Hid (Below W9.heap.size W9 V5):=L4.out.trans (b5.mono L4.out.size);have H95:Hid (∀ W,Below V5.heap.size V5 W->Below W0.heap.size W0 W):=fun W hW=>(H9.out.trans (L5.out.mono H9.out.size)).trans (hW.mono (by have:=H9.out.size;have:=L5.out.size;omega))
 have HAR:Hid (∀ W,Below V5.heap.size V5 W->∀ i (h:i<4),Calls prog 7 #[.slice (some ⟨V4.heap.size+2,i*7,none⟩) 1 (4 - i),(.agg #[.int .i64 c.k,.bool c.b,.int .i64 c.i,.string c.s,.slice an ln cn,.slice al ll cl])] W fun e w'=>RR W (rnd [(WAr.arC a b)[i]] c) e w'):=fun W hW i hi=>by
  have hu:=HU.out W (H95.out W hW);have hws:=hW.size;refine render_all (mc:=max ma mb+1) ?_ (HV.out W hu) (HT.out.below hu);exact WAr.ar_in (S:=fun b=>b<W.heap.size) (g:=V4.heap.size) (B:=V4.heap.size+2) (show V4.heap.size+2<W.heap.size by omega) (show V4.heap.size<W.heap.size by omega) (show V4.heap.size+1<W.heap.size by omega) ((hW.block _ (by omega)).trans z0) ((hW.block _ (by omega)).trans z1) ((hW.block _ (by omega)).trans z2) ((HA.out W hu).weak (fun _ h=>h) false id _ (by omega)) ((HB.out W hu).weak (fun _ h=>h) false id _ (by omega)) i hi
 have HV5:Hid (_=V5):=hV5;clear hV5 z0 z1 z2 b5;go_wp2_with fail
 rw[HV5.out];clear HV5;have hars:Hid _:=WQt.around EA.out EB.out;go_loopw [14] (fun v wr=>∃ q:Nat,v=.int .i64 q/\q<=4/\Below V5.heap.size V5 wr) (fun v _=>4 - (intOf v).toNat)
 case atStart=>exact⟨0,rfl,by omega,Below.refl _ _⟩
 case round=>
  obtain⟨q,hv,hq,hb0⟩:=hrel;have hbr:Hid (Below V5.heap.size V5 wr):=hb0;clear hb0;obtain rfl|rfl|rfl|rfl|rfl:q=4\/q=0\/q=1\/q=2\/q=3:=by omega
  all_goals clear hq
  ·replace hv:=hv.trans (show (_:Value)=.int .i64 4 from rfl)
   subst hv;go_wp2_with fail
   go_ret
   exact⟨rfl,HU.out _ (H95.out _ hbr.out)⟩
  ·replace hv:=hv.trans (show (_:Value)=.int .i64 0 from rfl)
   subst hv;have cq:Hid (Calls prog 7 #[.slice (some ⟨V4.heap.size+2,0,none⟩) 1 4,(.agg #[.int .i64 c.k,.bool c.b,.int .i64 c.i,.string c.s,.slice an ln cn,.slice al ll cl])] wr.drew fun e w'=>RR wr.drew (rnd [eQ a] c) e w'):=HAR.out wr.drew hbr.out.drew 0 (by decide);have hd5:Hid (Below W0.heap.size W0 wr.drew):=H95.out _ hbr.out.drew;have har:Ar (eQ a) c ([T.mk ⟨#[113]⟩ ⟨#[]⟩ [] F]):=hars.out.1;go_wp2_with fail
   refine wp_region_held_drew (S:=fun W=>(W.cell? ⟨w.heap.size,0,none⟩=some (.int .i64 c.k)/\W.cell? ⟨w.heap.size,1,none⟩=some (.bool c.b)/\W.cell? ⟨w.heap.size,2,none⟩=some (.int .i64 c.i)/\W.cell? ⟨w.heap.size,3,none⟩=some (.string c.s)/\W.cell? ⟨w.heap.size,4,none⟩=some (.slice an ln cn)/\W.cell? ⟨w.heap.size,5,none⟩=some (.slice al ll cl))) (by kernel_rfl) (HX.out _ hd5.out) (fun hHeld=>?_);refine tkH 0 rfl ?_;try simp only [ptH]
   refine tkH 1 rfl ?_;try simp only [ptH]
   refine tkH 2 rfl ?_;try simp only [ptH]
   refine tkH 3 (v:=.int .i64 1) rfl ?_ (hv:=by intro w hSw;(try dsimp only at hSw);go_simp;first | done | rfl);try simp only [ptH]
   refine tkH 4 (v:=.slice (some ⟨V4.heap.size+2,0,none⟩) 1 4) rfl ?_ (hv:=by intro w hSw;(try dsimp only at hSw);go_simp;first | done | rfl);try simp only [ptH]
   refine tkH 5 rfl ?_;try simp only [ptH]
   refine rdH [6] ?_;refine alH rfl fun K0 hK=>?_
   go_simp
   refine cq.out.mono ?_;rintro e U1 ⟨b1,hAns⟩;have u1:Hid (Below V5.heap.size V5 U1):=hbr.out.drew.trans (b1.mono hbr.out.drew.size);have HAns:Hid _:=hAns;obtain⟨tq,ntq,ctq,zq,rfl⟩ : ∃ x y z q,e=.returned (.tuple #[.slice x y z,.int .i64 q]):=by
    rcases har with h|h|h|h <;> rw[h] at hAns
    ·obtain⟨mt,tv,rfl,⟨x,y,rfl,-⟩⟩:=hAns;exact⟨_,_,_,_,rfl⟩
    all_goals (obtain rfl:=hAns;exact⟨_,_,_,_,rfl⟩)
   clear b1 cq hAns;go_wp2_with fail
   refine hK.out _ _ (HX.out _ (H95.out _ u1.out)) (fun hHeld=>?_);clear hK K0;try simp only [ptH]
   refine tkH 7 rfl ?_;try simp only [ptH]
   refine tkH 8 rfl ?_;try simp only [ptH]
   refine tkH 9 rfl ?_;try simp only [ptH]
   refine tkH 10 rfl ?_;try simp only [ptH]
   refine tkH 11 rfl ?_;try simp only [ptH]
   refine dnH ?_;clear hHeld;have hans2:(zq=1504\/zq=1503\/zq=1601)\/zq=0/\∃ mt,TBase.InL false TBase.All U1 mt (.slice tq ntq ctq) ([T.mk ⟨#[113]⟩ ⟨#[]⟩ [] F]):=by
    have h9:=HAns.out;rcases har with h|h|h|h <;> rw[h] at h9
    ·obtain⟨mt,tv,h1,h2⟩:=h9;cases h1;exact .inr ⟨rfl,mt,h2⟩
    all_goals (cases h9;simp)
   clear HAns har;rcases hans2 with (rfl|rfl|rfl)|⟨rfl,mt,hT1⟩
   ·go_wp2_with fail
    refine (cN _ _).mono ?_;rintro e w9 ⟨rfl,rfl⟩;go_wp2_with fail
    go_roundw
    case rel=>exact⟨0+1,rfl,by omega,u1.out⟩
    case measure=>decide
   ·go_wp2_with fail
    refine (cN _ _).mono ?_;rintro e w9 ⟨rfl,rfl⟩;go_wp2_with fail
    refine (cN _ _).mono ?_;rintro e w9 ⟨rfl,rfl⟩;go_wp2_with fail
    go_roundw
    case rel=>exact⟨0+1,rfl,by omega,u1.out⟩
    case measure=>decide
   ·go_wp2_with fail
    refine (cN _ _).mono ?_;rintro e w9 ⟨rfl,rfl⟩;go_wp2_with fail
    refine (cN _ _).mono ?_;rintro e w9 ⟨rfl,rfl⟩;go_wp2_with fail
    refine (cN _ _).mono ?_;rintro e w9 ⟨rfl,rfl⟩;go_wp2_with fail
    go_roundw
    case rel=>exact⟨0+1,rfl,by omega,u1.out⟩
    case measure=>decide
   have HT1:Hid (TBase.InL false TBase.All U1 mt (.slice tq ntq ctq) ([T.mk ⟨#[113]⟩ ⟨#[]⟩ [] F])):=hT1;have hf1:Hid (TBase.InL false TBase.All U1 mm (.slice ta nta cta) F):=HF9.out U1 (L5.out.trans (u1.out.mono L5.out.size));clear hT1;go_wp2_with fail
   refine (cN _ _).mono ?_;rintro e w9 ⟨rfl,rfl⟩;go_wp2_with fail
   refine (cN _ _).mono ?_;rintro e w9 ⟨rfl,rfl⟩;go_wp2_with fail
   refine (cN _ _).mono ?_;rintro e w9 ⟨rfl,rfl⟩;obtain⟨U2,hU2⟩ : ∃ U,U1.alloc (.cells #[.string ⟨#[113]⟩,.string ⟨#[]⟩,.slice none 0 0,.slice ta nta cta] 47)=U:=⟨_,rfl⟩;have bU2:Below U1.heap.size U1 U2:=by rw[<- hU2];exact (Below.refl _ U1).alloc (Nat.le_refl _) _
   have u2:Hid (Below V5.heap.size V5 U2):=u1.out.trans (bU2.mono u1.out.size);have hbx:U2.heap[U1.heap.size]? = some (.cells #[.string ⟨#[113]⟩,.string ⟨#[]⟩,.slice none 0 0,.slice ta nta cta] 47 (0,0)):=by rw[<- hU2];exact heap_alloc_new U1 _
   have hq2:TBase.InL false TBase.All U2 (max mt (mm+1)) (.slice (some ⟨U1.heap.size,0,none⟩) 1 1) [T.mk ⟨#[113]⟩ ⟨#[]⟩ [] F]:=(WQt.one_q hbx (hf1.out.below bU2)).weak (fun _ h=>h) false id _ (by omega);have cSm:=TSame.same_c (max mt (mm+1)) _ _ _ _ U2 ((HT1.out.below bU2).weak (fun _ h=>h) false id (max mt (mm+1)) (by omega)) hq2;rw[TSr.sm_self] at cSm;clear bU2 hbx hq2;go_wp2_with fail
   try rw[hU2]
   refine (cN _ _).mono ?_;rintro e w9 ⟨rfl,rfl⟩;go_wp2_with fail
   try rw[hU2]
   refine cSm.mono ?_;rintro e U3 ⟨rfl,b3⟩;have u3:Hid (Below V5.heap.size V5 U3):=u2.out.trans (b3.mono u2.out.size);clear b3 cSm;go_wp2_with fail
   go_roundw
   case rel=>exact⟨0+1,rfl,by omega,u3.out⟩
   case measure=>decide
  ·replace hv:=hv.trans (show (_:Value)=.int .i64 1 from rfl)
   subst hv;have cq:Hid (Calls prog 7 #[.slice (some ⟨V4.heap.size+2,7,none⟩) 1 3,(.agg #[.int .i64 c.k,.bool c.b,.int .i64 c.i,.string c.s,.slice an ln cn,.slice al ll cl])] wr.drew fun e w'=>RR wr.drew (rnd [iC (bE 3) a b] c) e w'):=HAR.out wr.drew hbr.out.drew 1 (by decide);have hd5:Hid (Below W0.heap.size W0 wr.drew):=H95.out _ hbr.out.drew;have har:Ar (iC (bE 3) a b) c (F):=hars.out.2.1;go_wp2_with fail
   refine wp_region_held_drew (S:=fun W=>(W.cell? ⟨w.heap.size,0,none⟩=some (.int .i64 c.k)/\W.cell? ⟨w.heap.size,1,none⟩=some (.bool c.b)/\W.cell? ⟨w.heap.size,2,none⟩=some (.int .i64 c.i)/\W.cell? ⟨w.heap.size,3,none⟩=some (.string c.s)/\W.cell? ⟨w.heap.size,4,none⟩=some (.slice an ln cn)/\W.cell? ⟨w.heap.size,5,none⟩=some (.slice al ll cl))) (by kernel_rfl) (HX.out _ hd5.out) (fun hHeld=>?_);refine tkH 0 rfl ?_;try simp only [ptH]
   refine tkH 1 rfl ?_;try simp only [ptH]
   refine tkH 2 rfl ?_;try simp only [ptH]
   refine tkH 3 (v:=.int .i64 2) rfl ?_ (hv:=by intro w hSw;(try dsimp only at hSw);go_simp;first | done | rfl);try simp only [ptH]
   refine tkH 4 (v:=.slice (some ⟨V4.heap.size+2,7,none⟩) 1 3) rfl ?_ (hv:=by intro w hSw;(try dsimp only at hSw);go_simp;first | done | rfl);try simp only [ptH]
   refine tkH 5 rfl ?_;try simp only [ptH]
   refine rdH [6] ?_;refine alH rfl fun K0 hK=>?_
   go_simp
   refine cq.out.mono ?_;rintro e U1 ⟨b1,hAns⟩;have u1:Hid (Below V5.heap.size V5 U1):=hbr.out.drew.trans (b1.mono hbr.out.drew.size);have HAns:Hid _:=hAns;obtain⟨tq,ntq,ctq,zq,rfl⟩ : ∃ x y z q,e=.returned (.tuple #[.slice x y z,.int .i64 q]):=by
    rcases har with h|h|h|h <;> rw[h] at hAns
    ·obtain⟨mt,tv,rfl,⟨x,y,rfl,-⟩⟩:=hAns;exact⟨_,_,_,_,rfl⟩
    all_goals (obtain rfl:=hAns;exact⟨_,_,_,_,rfl⟩)
   clear b1 cq hAns;go_wp2_with fail
   refine hK.out _ _ (HX.out _ (H95.out _ u1.out)) (fun hHeld=>?_);clear hK K0;try simp only [ptH]
   refine tkH 7 rfl ?_;try simp only [ptH]
   refine tkH 8 rfl ?_;try simp only [ptH]
   refine tkH 9 rfl ?_;try simp only [ptH]
   refine tkH 10 rfl ?_;try simp only [ptH]
   refine tkH 11 rfl ?_;try simp only [ptH]
   refine dnH ?_;clear hHeld;have hans2:(zq=1504\/zq=1503\/zq=1601)\/zq=0/\∃ mt,TBase.InL false TBase.All U1 mt (.slice tq ntq ctq) (F):=by
    have h9:=HAns.out;rcases har with h|h|h|h <;> rw[h] at h9
    ·obtain⟨mt,tv,h1,h2⟩:=h9;cases h1;exact .inr ⟨rfl,mt,h2⟩
    all_goals (cases h9;simp)
   clear HAns har;rcases hans2 with (rfl|rfl|rfl)|⟨rfl,mt,hT1⟩
   ·go_wp2_with fail
    refine (cN _ _).mono ?_;rintro e w9 ⟨rfl,rfl⟩;go_wp2_with fail
    go_roundw
    case rel=>exact⟨1+1,rfl,by omega,u1.out⟩
    case measure=>decide
   ·go_wp2_with fail
    refine (cN _ _).mono ?_;rintro e w9 ⟨rfl,rfl⟩;go_wp2_with fail
    refine (cN _ _).mono ?_;rintro e w9 ⟨rfl,rfl⟩;go_wp2_with fail
    go_roundw
    case rel=>exact⟨1+1,rfl,by omega,u1.out⟩
    case measure=>decide
   ·go_wp2_with fail
    refine (cN _ _).mono ?_;rintro e w9 ⟨rfl,rfl⟩;go_wp2_with fail
    refine (cN _ _).mono ?_;rintro e w9 ⟨rfl,rfl⟩;go_wp2_with fail
    refine (cN _ _).mono ?_;rintro e w9 ⟨rfl,rfl⟩;go_wp2_with fail
    go_roundw
    case rel=>exact⟨1+1,rfl,by omega,u1.out⟩
    case measure=>decide
   have HT1:Hid (TBase.InL false TBase.All U1 mt (.slice tq ntq ctq) (F)):=hT1;have hf1:Hid (TBase.InL false TBase.All U1 mm (.slice ta nta cta) F):=HF9.out U1 (L5.out.trans (u1.out.mono L5.out.size));clear hT1;go_wp2_with fail
   refine (cN _ _).mono ?_;rintro e w9 ⟨rfl,rfl⟩;go_wp2_with fail
   refine (cN _ _).mono ?_;rintro e w9 ⟨rfl,rfl⟩;go_wp2_with fail
   refine (cN _ _).mono ?_;rintro e w9 ⟨rfl,rfl⟩;have cSm:=TSame.same_c (max mt mm) _ _ _ _ U1 (HT1.out.weak (fun _ h=>h) false id (max mt mm) (by omega)) (hf1.out.weak (fun _ h=>h) false id (max mt mm) (by omega));rw[TSr.sm_self] at cSm;go_wp2_with fail
   refine (cN _ _).mono ?_;rintro e w9 ⟨rfl,rfl⟩;go_wp2_with fail
   refine cSm.mono ?_;rintro e U3 ⟨rfl,b3⟩;have u3:Hid (Below V5.heap.size V5 U3):=u1.out.trans (b3.mono u1.out.size);clear b3 cSm;go_wp2_with fail
   go_roundw
   case rel=>exact⟨1+1,rfl,by omega,u3.out⟩
   case measure=>decide
  ·replace hv:=hv.trans (show (_:Value)=.int .i64 2 from rfl)
   subst hv;have cq:Hid (Calls prog 7 #[.slice (some ⟨V4.heap.size+2,14,none⟩) 1 2,(.agg #[.int .i64 c.k,.bool c.b,.int .i64 c.i,.string c.s,.slice an ln cn,.slice al ll cl])] wr.drew fun e w'=>RR wr.drew (rnd [iC (bE 2) b a] c) e w'):=HAR.out wr.drew hbr.out.drew 2 (by decide);have hd5:Hid (Below W0.heap.size W0 wr.drew):=H95.out _ hbr.out.drew;have har:Ar (iC (bE 2) b a) c (F):=hars.out.2.2.1;go_wp2_with fail
   refine wp_region_held_drew (S:=fun W=>(W.cell? ⟨w.heap.size,0,none⟩=some (.int .i64 c.k)/\W.cell? ⟨w.heap.size,1,none⟩=some (.bool c.b)/\W.cell? ⟨w.heap.size,2,none⟩=some (.int .i64 c.i)/\W.cell? ⟨w.heap.size,3,none⟩=some (.string c.s)/\W.cell? ⟨w.heap.size,4,none⟩=some (.slice an ln cn)/\W.cell? ⟨w.heap.size,5,none⟩=some (.slice al ll cl))) (by kernel_rfl) (HX.out _ hd5.out) (fun hHeld=>?_);refine tkH 0 rfl ?_;try simp only [ptH]
   refine tkH 1 rfl ?_;try simp only [ptH]
   refine tkH 2 rfl ?_;try simp only [ptH]
   refine tkH 3 (v:=.int .i64 3) rfl ?_ (hv:=by intro w hSw;(try dsimp only at hSw);go_simp;first | done | rfl);try simp only [ptH]
   refine tkH 4 (v:=.slice (some ⟨V4.heap.size+2,14,none⟩) 1 2) rfl ?_ (hv:=by intro w hSw;(try dsimp only at hSw);go_simp;first | done | rfl);try simp only [ptH]
   refine tkH 5 rfl ?_;try simp only [ptH]
   refine rdH [6] ?_;refine alH rfl fun K0 hK=>?_
   go_simp
   refine cq.out.mono ?_;rintro e U1 ⟨b1,hAns⟩;have u1:Hid (Below V5.heap.size V5 U1):=hbr.out.drew.trans (b1.mono hbr.out.drew.size);have HAns:Hid _:=hAns;obtain⟨tq,ntq,ctq,zq,rfl⟩ : ∃ x y z q,e=.returned (.tuple #[.slice x y z,.int .i64 q]):=by
    rcases har with h|h|h|h <;> rw[h] at hAns
    ·obtain⟨mt,tv,rfl,⟨x,y,rfl,-⟩⟩:=hAns;exact⟨_,_,_,_,rfl⟩
    all_goals (obtain rfl:=hAns;exact⟨_,_,_,_,rfl⟩)
   clear b1 cq hAns;go_wp2_with fail
   refine hK.out _ _ (HX.out _ (H95.out _ u1.out)) (fun hHeld=>?_);clear hK K0;try simp only [ptH]
   refine tkH 7 rfl ?_;try simp only [ptH]
   refine tkH 8 rfl ?_;try simp only [ptH]
   refine tkH 9 rfl ?_;try simp only [ptH]
   refine tkH 10 rfl ?_;try simp only [ptH]
   refine tkH 11 rfl ?_;try simp only [ptH]
   refine dnH ?_;clear hHeld;have hans2:(zq=1504\/zq=1503\/zq=1601)\/zq=0/\∃ mt,TBase.InL false TBase.All U1 mt (.slice tq ntq ctq) (F):=by
    have h9:=HAns.out;rcases har with h|h|h|h <;> rw[h] at h9
    ·obtain⟨mt,tv,h1,h2⟩:=h9;cases h1;exact .inr ⟨rfl,mt,h2⟩
    all_goals (cases h9;simp)
   clear HAns har;rcases hans2 with (rfl|rfl|rfl)|⟨rfl,mt,hT1⟩
   ·go_wp2_with fail
    refine (cN _ _).mono ?_;rintro e w9 ⟨rfl,rfl⟩;go_wp2_with fail
    go_roundw
    case rel=>exact⟨2+1,rfl,by omega,u1.out⟩
    case measure=>decide
   ·go_wp2_with fail
    refine (cN _ _).mono ?_;rintro e w9 ⟨rfl,rfl⟩;go_wp2_with fail
    refine (cN _ _).mono ?_;rintro e w9 ⟨rfl,rfl⟩;go_wp2_with fail
    go_roundw
    case rel=>exact⟨2+1,rfl,by omega,u1.out⟩
    case measure=>decide
   ·go_wp2_with fail
    refine (cN _ _).mono ?_;rintro e w9 ⟨rfl,rfl⟩;go_wp2_with fail
    refine (cN _ _).mono ?_;rintro e w9 ⟨rfl,rfl⟩;go_wp2_with fail
    refine (cN _ _).mono ?_;rintro e w9 ⟨rfl,rfl⟩;go_wp2_with fail
    go_roundw
    case rel=>exact⟨2+1,rfl,by omega,u1.out⟩
    case measure=>decide
   have HT1:Hid (TBase.InL false TBase.All U1 mt (.slice tq ntq ctq) (F)):=hT1;have hf1:Hid (TBase.InL false TBase.All U1 mm (.slice ta nta cta) F):=HF9.out U1 (L5.out.trans (u1.out.mono L5.out.size));clear hT1;go_wp2_with fail
   refine (cN _ _).mono ?_;rintro e w9 ⟨rfl,rfl⟩;go_wp2_with fail
   refine (cN _ _).mono ?_;rintro e w9 ⟨rfl,rfl⟩;go_wp2_with fail
   refine (cN _ _).mono ?_;rintro e w9 ⟨rfl,rfl⟩;have cSm:=TSame.same_c (max mt mm) _ _ _ _ U1 (HT1.out.weak (fun _ h=>h) false id (max mt mm) (by omega)) (hf1.out.weak (fun _ h=>h) false id (max mt mm) (by omega));rw[TSr.sm_self] at cSm;go_wp2_with fail
   refine (cN _ _).mono ?_;rintro e w9 ⟨rfl,rfl⟩;go_wp2_with fail
   refine cSm.mono ?_;rintro e U3 ⟨rfl,b3⟩;have u3:Hid (Below V5.heap.size V5 U3):=u1.out.trans (b3.mono u1.out.size);clear b3 cSm;go_wp2_with fail
   go_roundw
   case rel=>exact⟨2+1,rfl,by omega,u3.out⟩
   case measure=>decide
  ·replace hv:=hv.trans (show (_:Value)=.int .i64 3 from rfl)
   subst hv;have cq:Hid (Calls prog 7 #[.slice (some ⟨V4.heap.size+2,21,none⟩) 1 1,(.agg #[.int .i64 c.k,.bool c.b,.int .i64 c.i,.string c.s,.slice an ln cn,.slice al ll cl])] wr.drew fun e w'=>RR wr.drew (rnd [wC a] c) e w'):=HAR.out wr.drew hbr.out.drew 3 (by decide);have hd5:Hid (Below W0.heap.size W0 wr.drew):=H95.out _ hbr.out.drew;have har:Ar (wC a) c (F):=hars.out.2.2.2;go_wp2_with fail
   refine wp_region_held_drew (S:=fun W=>(W.cell? ⟨w.heap.size,0,none⟩=some (.int .i64 c.k)/\W.cell? ⟨w.heap.size,1,none⟩=some (.bool c.b)/\W.cell? ⟨w.heap.size,2,none⟩=some (.int .i64 c.i)/\W.cell? ⟨w.heap.size,3,none⟩=some (.string c.s)/\W.cell? ⟨w.heap.size,4,none⟩=some (.slice an ln cn)/\W.cell? ⟨w.heap.size,5,none⟩=some (.slice al ll cl))) (by kernel_rfl) (HX.out _ hd5.out) (fun hHeld=>?_);refine tkH 0 rfl ?_;try simp only [ptH]
   refine tkH 1 rfl ?_;try simp only [ptH]
   refine tkH 2 rfl ?_;try simp only [ptH]
   refine tkH 3 (v:=.int .i64 4) rfl ?_ (hv:=by intro w hSw;(try dsimp only at hSw);go_simp;first | done | rfl);try simp only [ptH]
   refine tkH 4 (v:=.slice (some ⟨V4.heap.size+2,21,none⟩) 1 1) rfl ?_ (hv:=by intro w hSw;(try dsimp only at hSw);go_simp;first | done | rfl);try simp only [ptH]
   refine tkH 5 rfl ?_;try simp only [ptH]
   refine rdH [6] ?_;refine alH rfl fun K0 hK=>?_
   go_simp
   refine cq.out.mono ?_;rintro e U1 ⟨b1,hAns⟩;have u1:Hid (Below V5.heap.size V5 U1):=hbr.out.drew.trans (b1.mono hbr.out.drew.size);have HAns:Hid _:=hAns;obtain⟨tq,ntq,ctq,zq,rfl⟩ : ∃ x y z q,e=.returned (.tuple #[.slice x y z,.int .i64 q]):=by
    rcases har with h|h|h|h <;> rw[h] at hAns
    ·obtain⟨mt,tv,rfl,⟨x,y,rfl,-⟩⟩:=hAns;exact⟨_,_,_,_,rfl⟩
    all_goals (obtain rfl:=hAns;exact⟨_,_,_,_,rfl⟩)
   clear b1 cq hAns;go_wp2_with fail
   refine hK.out _ _ (HX.out _ (H95.out _ u1.out)) (fun hHeld=>?_);clear hK K0;try simp only [ptH]
   refine tkH 7 rfl ?_;try simp only [ptH]
   refine tkH 8 rfl ?_;try simp only [ptH]
   refine tkH 9 rfl ?_;try simp only [ptH]
   refine tkH 10 rfl ?_;try simp only [ptH]
   refine tkH 11 rfl ?_;try simp only [ptH]
   refine dnH ?_;clear hHeld;have hans2:(zq=1504\/zq=1503\/zq=1601)\/zq=0/\∃ mt,TBase.InL false TBase.All U1 mt (.slice tq ntq ctq) (F):=by
    have h9:=HAns.out;rcases har with h|h|h|h <;> rw[h] at h9
    ·obtain⟨mt,tv,h1,h2⟩:=h9;cases h1;exact .inr ⟨rfl,mt,h2⟩
    all_goals (cases h9;simp)
   clear HAns har;rcases hans2 with (rfl|rfl|rfl)|⟨rfl,mt,hT1⟩
   ·go_wp2_with fail
    refine (cN _ _).mono ?_;rintro e w9 ⟨rfl,rfl⟩;go_wp2_with fail
    go_roundw
    case rel=>exact⟨3+1,rfl,by omega,u1.out⟩
    case measure=>decide
   ·go_wp2_with fail
    refine (cN _ _).mono ?_;rintro e w9 ⟨rfl,rfl⟩;go_wp2_with fail
    refine (cN _ _).mono ?_;rintro e w9 ⟨rfl,rfl⟩;go_wp2_with fail
    go_roundw
    case rel=>exact⟨3+1,rfl,by omega,u1.out⟩
    case measure=>decide
   ·go_wp2_with fail
    refine (cN _ _).mono ?_;rintro e w9 ⟨rfl,rfl⟩;go_wp2_with fail
    refine (cN _ _).mono ?_;rintro e w9 ⟨rfl,rfl⟩;go_wp2_with fail
    refine (cN _ _).mono ?_;rintro e w9 ⟨rfl,rfl⟩;go_wp2_with fail
    go_roundw
    case rel=>exact⟨3+1,rfl,by omega,u1.out⟩
    case measure=>decide
   have HT1:Hid (TBase.InL false TBase.All U1 mt (.slice tq ntq ctq) (F)):=hT1;have hf1:Hid (TBase.InL false TBase.All U1 mm (.slice ta nta cta) F):=HF9.out U1 (L5.out.trans (u1.out.mono L5.out.size));clear hT1;go_wp2_with fail
   refine (cN _ _).mono ?_;rintro e w9 ⟨rfl,rfl⟩;go_wp2_with fail
   refine (cN _ _).mono ?_;rintro e w9 ⟨rfl,rfl⟩;go_wp2_with fail
   refine (cN _ _).mono ?_;rintro e w9 ⟨rfl,rfl⟩;have cSm:=TSame.same_c (max mt mm) _ _ _ _ U1 (HT1.out.weak (fun _ h=>h) false id (max mt mm) (by omega)) (hf1.out.weak (fun _ h=>h) false id (max mt mm) (by omega));rw[TSr.sm_self] at cSm;go_wp2_with fail
   refine (cN _ _).mono ?_;rintro e w9 ⟨rfl,rfl⟩;go_wp2_with fail
   refine cSm.mono ?_;rintro e U3 ⟨rfl,b3⟩;have u3:Hid (Below V5.heap.size V5 U3):=u1.out.trans (b3.mono u1.out.size);clear b3 cSm;go_wp2_with fail
   go_roundw
   case rel=>exact⟨3+1,rfl,by omega,u3.out⟩
   case measure=>decide
end Go.Proofs.YtdolgmmldncfkaaGreatDoor.WRJ

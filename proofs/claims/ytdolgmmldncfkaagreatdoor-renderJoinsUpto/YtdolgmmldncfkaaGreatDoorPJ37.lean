import Derived.Test.YtdolgmmldncfkaaGreatDoorPJ04
import Derived.Test.YtdolgmmldncfkaaGreatDoorPJ30
import Derived.Test.YtdolgmmldncfkaaGreatDoorPJ32
import Derived.Test.YtdolgmmldncfkaaGreatDoorPJ36
open Go.Proofs.Tryz
set_option linter.unusedVariables false
set_option maxRecDepth 20000
set_option maxHeartbeats 3200000
namespace Go.Proofs.YtdolgmmldncfkaaGreatDoor.KSx
open Tak
open Go.RowKit Base KBase KSw
def CS (m:Nat):Prop:=∀ (w:World) (v:Value) (cs:List Co) (left:Nat),left<=4096->InL false (fun _=>True) w m v cs ->
  Calls prog 17 #[v,.int .i64 left] w fun e w'=>(∃ b,e=.returned (.bool b))/\Below w.heap.size w w'
theorem cores_of {m:Nat} (ih:∀ m',m=m'+1->CS m'):CS m:=by
 intro w v cs left hleft hin
 have Hih:=hid ih;obtain⟨a,cap,rfl,hlc,hcm,hlen,hnil,hL⟩:=hin
 have HL:=hid hL;clear hL ih;by_cases h0:left=0
 ·subst h0
  go_enter func17,ntmps17;go_wp2_with fail
  go_ret
  first | exact⟨⟨_,rfl⟩,Below.refl _ _⟩ | exact⟨_,rfl,Below.refl _ _⟩ | (refine⟨?_,Below.refl _ _⟩;by_cases h:cs=[] <;> simp [h])
 ·have h0':((left:Int) == 0)=false:=by simp;omega
  have hwl:IntKind.i64.wrap ((left:Int) - 1)=((left - 1:Nat):Int):=by rw[IntKind.wrap_i64];omega
  go_enter func17,ntmps17;go_wp2_with fail
  go_loopw [5] (fun i wr=>∃ q:Nat,q<=cs.length/\i=.int .i64 q/\Below w.heap.size w wr) (fun i _=>cs.length - (intOf i).toNat)
  case atStart=>exact⟨0,by omega,rfl,Below.refl _ _⟩
  case round=>
   obtain⟨q,hq,rfl,hb⟩:=hrel;have HB:=hid hb;by_cases hlt:q<cs.length
   ·have d0:decide ((q:Int)<(cs.length:Int))=true:=by simp;omega
    have i0:(0:Int)<=(q:Int):=by omega
    have i1:(q:Int)<(cs.length:Int):=by omega
    obtain⟨g,o,u,ha,-,hu,hi⟩:=HL.out.elem hlt;subst ha;obtain⟨v0,v1,v2,v3,v4,v5,v6,rfl,k0,k1,k2,k3,k4,k5,k6⟩:=hu;obtain⟨m',fv,pv,xv,lv,uv,hm,hv,-,-,hF,hP,hX,hLl,hUl⟩:=hi.shape;simp only [Value.agg.injEq, Array.mk.injEq, List.cons.injEq, and_true] at hv;obtain⟨rfl,rfl,rfl,rfl,rfl,rfl,rfl⟩:=hv;have HF:=hid hF;have HP:=hid hP;have HX:=hid hX;have HLl:=hid hLl;have HUl:=hid hUl;obtain⟨a1,c1,rfl,-⟩:=hF;obtain⟨a2,c2,rfl,-⟩:=hP;obtain⟨mx,a3,c3,rfl,-⟩:=hX;obtain⟨a4,c4,rfl,-⟩:=hLl;obtain⟨a5,c5,rfl,-⟩:=hUl;have hvi:=Hih.out m' hm;obtain⟨y,hy⟩ : ∃ y,cs[q]=y:=⟨_,rfl⟩;rw[hy] at k2 k3 k4 k5 k6 HF HP HX HLl HUl;have HS:Hid (∀ w',Below w.heap.size w w'->w'.cell? ⟨g,o+q*7+2,none⟩=some (.slice a1 y.f.length c1)/\w'.cell? ⟨g,o+q*7+3,none⟩=some (.slice a2 y.p.length c2)/\w'.cell? ⟨g,o+q*7+4,none⟩=some (.slice a3 y.x.length c3)/\w'.cell? ⟨g,o+q*7+5,none⟩=some (.slice a4 y.l.length c4)/\w'.cell? ⟨g,o+q*7+6,none⟩=some (.slice a5 y.u.length c5)):=fun w' hB=>⟨below_cell k2 hB,below_cell k3 hB,below_cell k4 hB,below_cell k5 hB,below_cell k6 hB⟩
    have HSa:=hid (HS.out wr HB.out);obtain⟨a0_,a1_,a2_,a3_,a4_⟩:=HSa.out;have cE:=fun W (hB:Below w.heap.size w W)=>exprs_c (w:=W) (RF.keep (Keep.of_below hB) HF.out) (RP.keep (Keep.of_below hB) HP.out) (RX.keep (Keep.of_below hB) HX.out)
    have cL:=fun W (hB:Below w.heap.size w W)=>hvi W _ y.l (left - 1) (by omega) (InL.keep (Keep.of_below hB) HLl.out)
    have cU:=fun W (hB:Below w.heap.size w W)=>hvi W _ y.u (left - 1) (by omega) (InL.keep (Keep.of_below hB) HUl.out)
    clear hi hy k0 k1 k2 k3 k4 k5 k6 hb;go_wp2_with fail
    refine wp_region_held_drew (S:=(fun w'=>w'.cell? ⟨g,o+q*7+2,none⟩=some (.slice a1 y.f.length c1)/\w'.cell? ⟨g,o+q*7+3,none⟩=some (.slice a2 y.p.length c2)/\w'.cell? ⟨g,o+q*7+4,none⟩=some (.slice a3 y.x.length c3)/\w'.cell? ⟨g,o+q*7+5,none⟩=some (.slice a4 y.l.length c4)/\w'.cell? ⟨g,o+q*7+6,none⟩=some (.slice a5 y.u.length c5))) (by kernel_rfl) (by exact HSa.out) (fun hHeld=>?_);refine tkH 0 rfl ?_;try simp only [ptH]
    refine tkH 1 rfl ?_;try simp only [ptH]
    refine tkH 2 rfl ?_;try simp only [ptH]
    refine tkH 3 rfl ?_;try simp only [ptH]
    refine tkH 4 rfl ?_;try simp only [ptH]
    refine tkH 5 rfl ?_;try simp only [ptH]
    refine tkH 6 rfl ?_;try simp only [ptH]
    refine tkH 7 rfl ?_;try simp only [ptH]
    refine tkH 8 rfl ?_;try simp only [ptH]
    refine tkH 9 rfl ?_;try simp only [ptH]
    refine tkH 10 rfl ?_;try simp only [ptH]
    refine tkH 11 rfl ?_;try simp only [ptH]
    refine tkH 12 rfl ?_;try simp only [ptH]
    refine tkH 13 rfl ?_;try simp only [ptH]
    refine tkH 14 rfl ?_;try simp only [ptH]
    refine rdH [15] ?_;refine AllReadyH.cons rfl (fun K hK=>?_) AllReadyH.nil;go_simp
    refine (cE _ (HB.out.trans (Below.refl _ wr).drew)).mono ?_;rintro e W5 ⟨⟨b,rfl⟩,b1⟩;have HBb:=hid ((HB.out.trans (Below.refl _ wr).drew).trans (b1.mono HB.out.size));have HSb:=hid (HS.out W5 HBb.out);clear b1;cases b with
    | true=>
     go_wp2_with fail
     refine hK.out _ _ (by exact HSb.out) (fun hHeld=>?_);clear hK K;try simp only [ptH]
     refine tkH 16 rfl ?_;try simp only [ptH]
     refine tkH 17 rfl ?_;try simp only [ptH]
     refine tkH 18 rfl ?_;try simp only [ptH]
     refine tkH 19 rfl ?_;try simp only [ptH]
     refine tkH 20 rfl ?_;try simp only [ptH]
     refine tkH 21 rfl ?_;try simp only [ptH]
     refine tkH 22 rfl ?_;try simp only [ptH]
     refine tkH 23 rfl ?_;try simp only [ptH]
     refine tkH 24 rfl ?_;try simp only [ptH]
     refine rdH [25] ?_;refine AllReadyH.cons rfl (fun K hK=>?_) AllReadyH.nil;go_simp
     try rw[hwl]
     refine (cL W5 HBb.out).mono ?_;rintro e W6 ⟨⟨b,rfl⟩,b1⟩;have HBc:=hid (nx HBb.out b1);have HSc:=hid (HS.out W6 HBc.out);clear b1;cases b with
     | true=>
      go_wp2_with fail
      refine hK.out _ _ (by exact HSc.out) (fun hHeld=>?_);clear hK K;try simp only [ptH]
      refine tkH 26 rfl ?_;try simp only [ptH]
      refine tkH 27 rfl ?_;try simp only [ptH]
      refine tkH 28 rfl ?_;try simp only [ptH]
      refine tkH 29 rfl ?_;try simp only [ptH]
      refine tkH 30 rfl ?_;try simp only [ptH]
      refine tkH 31 rfl ?_;try simp only [ptH]
      refine tkH 32 rfl ?_;try simp only [ptH]
      refine tkH 33 rfl ?_;try simp only [ptH]
      refine tkH 34 rfl ?_;try simp only [ptH]
      refine tkH 35 rfl ?_;try simp only [ptH]
      refine rdH [36] ?_;refine AllReadyH.cons rfl (fun K hK=>?_) AllReadyH.nil;go_simp
      try rw[hwl]
      refine (cU W6 HBc.out).mono ?_;rintro e W7 ⟨⟨b,rfl⟩,b1⟩;have HBd:=hid (nx HBc.out b1);have HSd:=hid (HS.out W7 HBd.out);clear b1;cases b with
      | true=>
       go_wp2_with fail
       refine hK.out _ _ (by exact HSd.out) (fun hHeld=>?_);clear hK K;try simp only [ptH]
       refine tkH 37 rfl ?_;try simp only [ptH]
       refine tkH 38 rfl ?_;try simp only [ptH]
       refine dnH ?_;go_wp2_with fail
       go_roundw
       case rel=>exact⟨q+1,by omega,by go_num,HBd.out⟩
       case measure=>simp only [intOf];omega
      | false=>
       go_wp2_with fail
       refine hK.out _ _ (by exact HSd.out) (fun hHeld=>?_);clear hK K;try simp only [ptH]
       refine tkH 37 rfl ?_;try simp only [ptH]
       refine tkH 38 rfl ?_;try simp only [ptH]
       refine dnH ?_;go_wp2_with fail
       go_ret
       exact⟨⟨_,rfl⟩,HBd.out⟩
     | false=>
      go_wp2_with fail
      refine hK.out _ _ (by exact HSc.out) (fun hHeld=>?_);clear hK K;try simp only [ptH]
      refine tkH 26 rfl ?_;try simp only [ptH]
      refine tkH 27 rfl ?_;try simp only [ptH]
      refine tkH 28 rfl ?_;try simp only [ptH]
      refine wpAnyH_take (i:=29) rfl (by kernel_rfl) (by kernel_rfl) (by kernel_rfl) (fun _ _ _ h=>h) (Or.inr ⟨by rfl,rfl⟩) (by assumption) ?_;try simp only [ptH]
      refine wpAnyH_take (i:=30) rfl (by kernel_rfl) (by kernel_rfl) (by kernel_rfl) (fun _ _ _ h=>h) (Or.inr ⟨by rfl,rfl⟩) (by assumption) ?_;try simp only [ptH]
      refine wpAnyH_take (i:=31) rfl (by kernel_rfl) (by kernel_rfl) (by kernel_rfl) (fun _ _ _ h=>h) (Or.inr ⟨by rfl,rfl⟩) (by assumption) ?_;try simp only [ptH]
      refine wpAnyH_take (i:=32) rfl (by kernel_rfl) (by kernel_rfl) (by kernel_rfl) (fun _ _ _ h=>h) (Or.inr ⟨by rfl,rfl⟩) (by assumption) ?_;try simp only [ptH]
      refine wpAnyH_take (i:=33) rfl (by kernel_rfl) (by kernel_rfl) (by kernel_rfl) (fun _ _ _ h=>h) (Or.inr ⟨by rfl,rfl⟩) (by assumption) ?_;try simp only [ptH]
      refine wpAnyH_take (i:=34) rfl (by kernel_rfl) (by kernel_rfl) (by kernel_rfl) (fun _ _ _ h=>h) (Or.inr ⟨by rfl,rfl⟩) (by assumption) ?_;try simp only [ptH]
      refine wpAnyH_take (i:=35) rfl (by kernel_rfl) (by kernel_rfl) (by kernel_rfl) (fun _ _ _ h=>h) (Or.inr ⟨by rfl,rfl⟩) (by assumption) ?_;try simp only [ptH]
      refine wpAnyH_take (i:=36) rfl (by kernel_rfl) (by kernel_rfl) (by kernel_rfl) (fun _ _ _ h=>h) (Or.inr ⟨by rfl,rfl⟩) (by assumption) ?_;try simp only [ptH]
      refine wpAnyH_take (i:=37) rfl (by kernel_rfl) (by kernel_rfl) (by kernel_rfl) (fun _ _ _ h=>h) (Or.inr ⟨by rfl,rfl⟩) (by assumption) ?_;try simp only [ptH]
      refine tkH 38 rfl ?_;try simp only [ptH]
      refine dnH ?_;go_wp2_with fail
      go_ret
      exact⟨⟨_,rfl⟩,HBc.out⟩
    | false=>
     go_wp2_with fail
     refine hK.out _ _ (by exact HSb.out) (fun hHeld=>?_);clear hK K;try simp only [ptH]
     refine tkH 16 rfl ?_;try simp only [ptH]
     refine tkH 17 rfl ?_;try simp only [ptH]
     refine wpAnyH_take (i:=18) rfl (by kernel_rfl) (by kernel_rfl) (by kernel_rfl) (fun _ _ _ h=>h) (Or.inr ⟨by rfl,rfl⟩) (by assumption) ?_;try simp only [ptH]
     refine wpAnyH_take (i:=19) rfl (by kernel_rfl) (by kernel_rfl) (by kernel_rfl) (fun _ _ _ h=>h) (Or.inr ⟨by rfl,rfl⟩) (by assumption) ?_;try simp only [ptH]
     refine wpAnyH_take (i:=20) rfl (by kernel_rfl) (by kernel_rfl) (by kernel_rfl) (fun _ _ _ h=>h) (Or.inr ⟨by rfl,rfl⟩) (by assumption) ?_;try simp only [ptH]
     refine wpAnyH_take (i:=21) rfl (by kernel_rfl) (by kernel_rfl) (by kernel_rfl) (fun _ _ _ h=>h) (Or.inr ⟨by rfl,rfl⟩) (by assumption) ?_;try simp only [ptH]
     refine wpAnyH_take (i:=22) rfl (by kernel_rfl) (by kernel_rfl) (by kernel_rfl) (fun _ _ _ h=>h) (Or.inr ⟨by rfl,rfl⟩) (by assumption) ?_;try simp only [ptH]
     refine wpAnyH_take (i:=23) rfl (by kernel_rfl) (by kernel_rfl) (by kernel_rfl) (fun _ _ _ h=>h) (Or.inr ⟨by rfl,rfl⟩) (by assumption) ?_;try simp only [ptH]
     refine wpAnyH_take (i:=24) rfl (by kernel_rfl) (by kernel_rfl) (by kernel_rfl) (fun _ _ _ h=>h) (Or.inr ⟨by rfl,rfl⟩) (by assumption) ?_;try simp only [ptH]
     refine wpAnyH_take (i:=25) rfl (by kernel_rfl) (by kernel_rfl) (by kernel_rfl) (fun _ _ _ h=>h) (Or.inr ⟨by rfl,rfl⟩) (by assumption) ?_;try simp only [ptH]
     refine wpAnyH_take (i:=26) rfl (by kernel_rfl) (by kernel_rfl) (by kernel_rfl) (fun _ _ _ h=>h) (Or.inr ⟨by rfl,rfl⟩) (by assumption) ?_;try simp only [ptH]
     refine tkH 27 rfl ?_;try simp only [ptH]
     refine tkH 28 rfl ?_;try simp only [ptH]
     refine wpAnyH_take (i:=29) rfl (by kernel_rfl) (by kernel_rfl) (by kernel_rfl) (fun _ _ _ h=>h) (Or.inr ⟨by rfl,rfl⟩) (by assumption) ?_;try simp only [ptH]
     refine wpAnyH_take (i:=30) rfl (by kernel_rfl) (by kernel_rfl) (by kernel_rfl) (fun _ _ _ h=>h) (Or.inr ⟨by rfl,rfl⟩) (by assumption) ?_;try simp only [ptH]
     refine wpAnyH_take (i:=31) rfl (by kernel_rfl) (by kernel_rfl) (by kernel_rfl) (fun _ _ _ h=>h) (Or.inr ⟨by rfl,rfl⟩) (by assumption) ?_;try simp only [ptH]
     refine wpAnyH_take (i:=32) rfl (by kernel_rfl) (by kernel_rfl) (by kernel_rfl) (fun _ _ _ h=>h) (Or.inr ⟨by rfl,rfl⟩) (by assumption) ?_;try simp only [ptH]
     refine wpAnyH_take (i:=33) rfl (by kernel_rfl) (by kernel_rfl) (by kernel_rfl) (fun _ _ _ h=>h) (Or.inr ⟨by rfl,rfl⟩) (by assumption) ?_;try simp only [ptH]
     refine wpAnyH_take (i:=34) rfl (by kernel_rfl) (by kernel_rfl) (by kernel_rfl) (fun _ _ _ h=>h) (Or.inr ⟨by rfl,rfl⟩) (by assumption) ?_;try simp only [ptH]
     refine wpAnyH_take (i:=35) rfl (by kernel_rfl) (by kernel_rfl) (by kernel_rfl) (fun _ _ _ h=>h) (Or.inr ⟨by rfl,rfl⟩) (by assumption) ?_;try simp only [ptH]
     refine wpAnyH_take (i:=36) rfl (by kernel_rfl) (by kernel_rfl) (by kernel_rfl) (fun _ _ _ h=>h) (Or.inr ⟨by rfl,rfl⟩) (by assumption) ?_;try simp only [ptH]
     refine wpAnyH_take (i:=37) rfl (by kernel_rfl) (by kernel_rfl) (by kernel_rfl) (fun _ _ _ h=>h) (Or.inr ⟨by rfl,rfl⟩) (by assumption) ?_;try simp only [ptH]
     refine tkH 38 rfl ?_;try simp only [ptH]
     refine dnH ?_;go_wp2_with fail
     go_ret
     exact⟨⟨_,rfl⟩,HBb.out⟩
   ·have d0:decide ((q:Int)<(cs.length:Int))=false:=by simp;omega
    go_wp2_with fail
    go_ret
    exact⟨⟨_,rfl⟩,HB.out⟩
theorem cores_all:∀ m,CS m
 | 0=>cores_of (fun m' h=>by omega)
 | m+1=>cores_of (fun m' h=>by have e:m=m':=(by omega);subst e;exact cores_all m)
theorem shallow_c {m:Nat} {w:World} {v:Value} {cs:List Co} (hin:InL false (fun _=>True) w m v cs) :
  Calls prog 6 #[v] w fun e w'=>(∃ b,e=.returned (.bool b))/\Below w.heap.size w w':=by
 have cC:=cores_all m w v cs 4096 (by omega) hin
 obtain⟨a,cap,rfl,-⟩:=hin
 go_enter func6,ntmps6;go_wp2_with fail
 refine cC.mono ?_;rintro e W1 ⟨⟨b,rfl⟩,b1⟩;go_wp2_with fail
 go_ret
 exact⟨⟨_,rfl⟩,b1⟩
end Go.Proofs.YtdolgmmldncfkaaGreatDoor.KSx
namespace Go.Proofs.YtdolgmmldncfkaaGreatDoor.WSh
open Go.RowKit Base KBase VRs GRn
open VPure hiding evL
open TBase (T)
open Shallow (dep)
theorem shallow2_c {m mc:Nat} {w:World} {cv v:Value} {cs:List Co} {c:C} (hcs:KBase.InL false (fun _=>True) w mc cv cs) (hin:Base.In false (fun _=>True) w (m+1) v c) :
  Calls prog 5 #[cv,v] w fun e w'=>(∃ b,e=.returned (.bool b))/\Below w.heap.size w w':=by
 obtain⟨an,ln,cn,al,ll,cl,rfl⟩:=in_shape hin
 obtain⟨W0,hW0⟩ : ∃ W,w.alloc (.cells #[.int .i64 c.k,.bool c.b,.int .i64 c.i,.string c.s,.slice an ln cn,.slice al ll cl] 26)=W:=⟨_,rfl⟩;have b0:Below w.heap.size w W0:=by rw[<- hW0];exact (Below.refl _ w).alloc (Nat.le_refl _) _
 have s0:w.heap.size<W0.heap.size:=by rw[<- hW0];simp
 have g0:W0.heap[w.heap.size]? = some (.cells #[.int .i64 c.k,.bool c.b,.int .i64 c.i,.string c.s,.slice an ln cn,.slice al ll cl] 26 (0,0)):=by rw[<- hW0];exact heap_alloc_new w _
 have HG:Hid (∀ W,Below W0.heap.size W0 W->W.heap[w.heap.size]? = some (.cells #[.int .i64 c.k,.bool c.b,.int .i64 c.i,.string c.s,.slice an ln cn,.slice al ll cl] 26 (0,0))):=fun W hW=>(hW.block _ s0).trans g0
 have HU:Hid (∀ W,Below W0.heap.size W0 W->Below w.heap.size w W):=fun W hW=>b0.trans (hW.mono b0.size)
 have c1:=KSx.shallow_c (hcs.keep (Keep.of_below b0));have HV:Hid (∀ W,Below w.heap.size w W->Calls prog 16 #[.agg #[.int .i64 c.k,.bool c.b,.int .i64 c.i,.string c.s,.slice an ln cn,.slice al ll cl]] W fun e w'=>e=.returned (.bool (decide (dep c<=4096)))/\Below W.heap.size W w'):=fun W hW=>Shallow.shallow_c _ _ c W (hin.keep (w':=W) (fun b _ hl=>hW.block b hl))
 clear hcs hin b0 g0;go_enter func5,ntmps5;go_wp2_with fail
 try rw[hW0]
 refine c1.mono ?_;rintro e W1 ⟨⟨b,rfl⟩,b1⟩;have c2:=HV.out W1 (HU.out W1 b1);obtain⟨x0,x1,x2,x3,x4,x5⟩:=Base.six_box (HG.out W1 b1);have HB1:Hid (Below w.heap.size w W1):=HU.out W1 b1;clear b1 c1;cases b
 ·go_wp2_with fail
  go_ret
  exact⟨⟨_,rfl⟩,HB1.out⟩
 ·go_wp2_with fail
  refine c2.mono ?_;rintro e W2 ⟨rfl,b2⟩;have HB2:Hid (Below w.heap.size w W2):=HB1.out.trans (b2.mono HB1.out.size);clear b2;go_wp2_with fail
  go_ret
  exact⟨⟨_,rfl⟩,HB2.out⟩
end Go.Proofs.YtdolgmmldncfkaaGreatDoor.WSh
namespace Go.Proofs.YtdolgmmldncfkaaGreatDoor.GRm
open Go.RowKit Base KBase JPure GPl GTr GNo GNe GRn
open VPure hiding evL
open TBase (T)
theorem rnL_acc (f:Co->Int->Except Nat (List T × Int)):∀ (cs:List Co) (r:Int) (F:List T),rnL f cs r F=bnd (rnL f cs r []) fun a=>.ok (F ++ a.1,a.2)
 | [],r,F=>by
  rw[rnL,rnL];show Except.ok (F,r)=Except.ok (F ++ [],r);rw[List.append_nil]
 | c :: cs,r,F=>by
  rw[rnL,rnL];cases f c r with
  | error q=>rfl
  | ok a=>
   show rnL f cs a.2 (F ++ a.1)=bnd (rnL f cs a.2 ([] ++ a.1)) _;rw[rnL_acc f cs a.2 (F ++ a.1),rnL_acc f cs a.2 ([] ++ a.1)];cases rnL f cs a.2 [] with
   | error q=>rfl
   | ok b=>
    show Except.ok _=Except.ok _;simp
theorem rnL_app (f:Co->Int->Except Nat (List T × Int)):∀ (a b:List Co) (r:Int) (F:List T),rnL f (a ++ b) r F=bnd (rnL f a r F) fun x=>rnL f b x.2 x.1
 | [],b,r,F=>by
  rw[rnL];rfl
 | c :: a,b,r,F=>by
  rw[List.cons_append,rnL,rnL];cases f c r with
  | error q=>rfl
  | ok x=>exact rnL_app f a b x.2 (F ++ x.1)
def Md (f:Int->Except Nat (List T × Int)):Prop:=∀ r' a,0<=r'->f r'=.ok a->(0<=a.2/\a.2<=r')/\∀ r,0<=r->r<=r'->f r=if r' - a.2<=r then .ok (a.1,r - (r' - a.2)) else .error 1601
theorem md_bnd {α:Type} {X:Except Nat α} {g:α->Int->Except Nat (List T × Int)} (h:∀ x,X=.ok x->Md (g x)):Md fun r=>bnd X fun x=>g x r:=by
 intro r' a h0 e;cases X with
 | error q=>cases e
 | ok x=>exact h x rfl r' a h0 e
theorem md_then {f:Int->Except Nat (List T × Int)} {g:List T->Int->Except Nat (List T × Int)} (hf:Md f) (hg:∀ F,Md (g F)):Md fun r=>bnd (f r) fun a=>g a.1 a.2:=by
 intro r' b h0 e;obtain⟨a,e1,e2⟩:=bnd_ok e;obtain⟨⟨l1,l2⟩,k1⟩:=hf r' a h0 e1;obtain⟨⟨m1,m2⟩,k2⟩:=hg a.1 a.2 b l1 e2;refine⟨⟨m1,by omega⟩,fun r hr hle=>?_⟩;show bnd (f r) _=_;rw[k1 r hr hle];by_cases h:r' - a.2<=r
 ·rw[if_pos h]
  show g a.1 (r - (r' - a.2))=_;rw[k2 (r - (r' - a.2)) (by omega) (by omega)];by_cases h2:r' - b.2<=r
  ·rw[if_pos (by omega),if_pos h2,show r - (r' - a.2) - (a.2 - b.2)=r - (r' - b.2) by omega]
  ·rw[if_neg (by omega),if_neg h2]
 ·rw[if_neg h,if_neg (by omega)]
  rfl
theorem md_ok (F:List T):Md fun r=>.ok (F,r):=by
 intro r' a h0 e;injection e with e
 subst e;refine⟨⟨h0,Int.le_refl _⟩,fun r hr hle=>?_⟩;show Except.ok (F,r)=(if r' - r'<=r then Except.ok (F,r - (r' - r')) else _);rw[if_pos (by omega),show r - (r' - r')=r by omega]
theorem md_rnL {f:Co->Int->Except Nat (List T × Int)}:∀ (cs:List Co) (F:List T),(∀ c ∈ cs,Md (f c))->Md fun r=>rnL f cs r F
 | [],F,h=>md_ok F
 | c :: cs,F,h=>md_then (g:=fun G r=>rnL f cs r (F ++ G)) (h c (List.mem_cons_self ..)) fun G=>md_rnL cs (F ++ G) fun d hd=>h d (List.mem_cons_of_mem _ hd)
theorem md_lp {f:Nat->C->Int->Except Nat (List T × Int)} (h:∀ i v,Md (f i v)):∀ (l:List C) (i:Nat) (F:List T),Md fun r=>lp f l i r F
 | [],i,F=>md_ok F
 | v :: t,i,F=>md_then (g:=fun G r=>lp f t (i+1) r (F ++ G)) (h i v) fun G=>md_lp h t (i+1) (F ++ G)
theorem md_one {α:Type} {X:Except Nat α} {g:α->T}:Md fun r=>one (if r=0 then .error 1601 else bnd X fun s=>.ok (g s,r - 1)):=by
 intro r' a h0 e;by_cases z:r'=0
 ·rw[z] at e
  cases e
 have e:one (if r'=0 then .error 1601 else bnd X fun s=>.ok (g s,r' - 1))=.ok a:=e;rw[if_neg z] at e;cases X with
 | error q=>cases e
 | ok x=>
  have e:Except.ok ([g x],r' - 1)=Except.ok a:=e;injection e with e
  subst e;refine⟨⟨by show 0<=r' - 1;omega,by show r' - 1<=r';omega⟩,fun r hr hle=>?_⟩;show one (if r=0 then .error 1601 else bnd (Except.ok x) fun s=>.ok (g s,r - 1))=(if r' - (r' - 1)<=r then Except.ok ([g x],r - (r' - (r' - 1))) else _);by_cases z2:r=0
  ·rw[if_pos z2,if_neg (by omega)]
   rfl
  ·rw[if_neg z2,if_pos (by omega),show r - (r' - (r' - 1))=r - 1 by omega]
   rfl
theorem md_elem {α:Type} {X:Except Nat α} {K:Int->Except Nat (List T × Int)} {g:α->List T->T} (hK:Md K):Md fun r=>one (if r=0 then .error 1601 else bnd X fun n=>bnd (K (r - 1)) fun a=>.ok (g n a.1,a.2)):=by
 intro r' b h0 e;by_cases z:r'=0
 ·rw[z] at e
  cases e
 have e:one (if r'=0 then .error 1601 else bnd X fun n=>bnd (K (r' - 1)) fun a=>.ok (g n a.1,a.2))=.ok b:=e;rw[if_neg z] at e;cases X with
 | error q=>cases e
 | ok n=>
  have e:one (bnd (K (r' - 1)) fun a=>.ok (g n a.1,a.2))=.ok b:=e;cases hk:K (r' - 1) with
  | error q=>rw[hk] at e;cases e
  | ok a=>
   rw[hk] at e;have e:Except.ok ([g n a.1],a.2)=Except.ok b:=e;injection e with e
   subst e;obtain⟨⟨l1,l2⟩,k⟩:=hK (r' - 1) a (by omega) hk;refine⟨⟨l1,by show a.2<=r';omega⟩,fun r hr hle=>?_⟩;show one (if r=0 then .error 1601 else bnd (K (r - 1)) fun a=>.ok (g n a.1,a.2))=(if r' - a.2<=r then Except.ok ([g n a.1],r - (r' - a.2)) else _);by_cases z2:r=0
   ·rw[if_pos z2,if_neg (by omega)]
    rfl
   ·rw[if_neg z2,k (r - 1) (by omega) (by omega)]
    by_cases h:r' - a.2<=r
    ·rw[if_pos (by omega),if_pos h,show r - (r' - a.2)=r - 1 - (r' - 1 - a.2) by omega]
     rfl
    ·rw[if_neg (by omega),if_neg h]
     rfl
theorem md_rn:∀ (n:Nat) (L:List C) (c:Co),Md (rn n L c)
 | 0,L,c=>fun r' a _ e=>by cases e
 | n+1,L,c=>by
  have hL:∀ L' cs F,Md fun r=>rnL (rn n L') cs r F:=fun L' cs F=>md_rnL cs F fun d _=>md_rn n L' d
  by_cases k1:c.k=1
  ·have:rn (n+1) L c=fun r=>one (nT L c.p r):=by funext r;rw[rn,if_pos k1]
   rw[this];exact md_one
  by_cases k2:c.k=2
  ·have:rn (n+1) L c=fun r=>one (nE L c.t c.f (rnL (rn n L) c.l (r - 1) []) r):=by funext r;rw[rn,if_neg k1,if_pos k2]
   rw[this];exact md_elem (g:=fun n ks=>T.mk c.t ⟨#[]⟩ n ks) (hL L c.l [])
  by_cases k3:c.k=3
  ·have:rn (n+1) L c=fun r=>bnd (bnd (ev (rh L) (x0 c)) isT) fun b=>rnL (rn n L) (if b=true then c.l else c.u) r []:=by funext r;rw[rn,if_neg k1,if_neg k2,if_pos k3]
   rw[this];exact md_bnd fun b _=>hL L _ []
  by_cases k4:c.k=4
  ·have:rn (n+1) L c=fun r=>bnd (bnd (ev (rh L) (x0 c)) isL) fun l=>bnd (kys L (x1 c) l 0 []) fun _=>lp (fun i v x=>rnL (rn n (L ++ [v,iV i])) c.l x []) l 0 r []:=by funext r;rw[rn,if_neg k1,if_neg k2,if_neg k3,if_pos k4]
   rw[this];exact md_bnd (g:=fun l r=>bnd (kys L (x1 c) l 0 []) fun _=>lp (fun i v x=>rnL (rn n (L ++ [v,iV i])) c.l x []) l 0 r []) fun l _=>md_bnd fun _ _=>md_lp (fun i v=>hL _ _ []) l 0 []
  ·have:rn (n+1) L c=fun r=>bnd (wth L c.x) fun L'=>rnL (rn n L') c.l r []:=by funext r;rw[rn,if_neg k1,if_neg k2,if_neg k3,if_neg k4]
   rw[this];exact md_bnd fun L' _=>hL L' _ []
theorem rn_join {n:Nat} {L:List C} {a b:List Co} {x y:List T × Int} (ha:rnL (rn n L) a 4096 []=.ok x) (hb:rnL (rn n L) b 4096 []=.ok y):rnL (rn n L) (a ++ b) 4096 []=(if 4096 - y.2<=x.2 then .ok (x.1 ++ y.1,x.2 - (4096 - y.2)) else .error 1601):=by
 obtain⟨⟨l1,l2⟩,-⟩:=md_rnL a [] (fun d _=>md_rn n L d) 4096 x (by omega) ha;have k:=(md_rnL b [] (fun d _=>md_rn n L d) 4096 y (by omega) hb).2 x.2 l1 l2;have k:rnL (rn n L) b x.2 []=_:=k;rw[rnL_app,ha];show rnL (rn n L) b x.2 x.1=_;rw[rnL_acc,k];split <;> rfl
end Go.Proofs.YtdolgmmldncfkaaGreatDoor.GRm
namespace Go.Proofs.YtdolgmmldncfkaaGreatDoor.GRf
open Go.RowKit Base KBase GRn GZp
open VPure hiding evL
open TBase (T)
open KVp (szL szL_cons szL_nil)
theorem rnL_same {f g:Co->Int->Except Nat (List T × Int)}:∀ (cs:List Co) (r:Int) (F:List T),(∀ d ∈ cs,∀ x,f d x=g d x)->rnL f cs r F=rnL g cs r F
 | [],r,F,h=>by rw[rnL,rnL]
 | c :: cs,r,F,h=>by
  rw[rnL,rnL,h c (List.mem_cons_self ..)];cases g c r with
  | error q=>rfl
  | ok a=>exact rnL_same cs a.2 (F ++ a.1) fun d hd=>h d (List.mem_cons_of_mem _ hd)
theorem lp_same {f g:Nat->C->Int->Except Nat (List T × Int)} (h:∀ i v x,f i v x=g i v x):∀ (l:List C) (i:Nat) (r:Int) (F:List T),lp f l i r F=lp g l i r F
 | [],i,r,F=>by rw[lp,lp]
 | v :: t,i,r,F=>by
  rw[lp,lp,h i v r];cases g i v r with
  | error q=>rfl
  | ok a=>exact lp_same h t (i+1) a.2 (F ++ a.1)
theorem n1_mem {cs:List Co} {d:Co} (h:d ∈ cs):n1 d<=szL cs:=by
 induction cs with
 | nil=>cases h
 | cons c t ih=>
  rw[szL_cons];rcases List.mem_cons.1 h with rfl|h
  ·unfold n1
   omega
  ·have:=ih h
   omega
theorem rn_fuel:∀ (n n':Nat) (L:List C) (c:Co) (r:Int),n1 c<=n->n1 c<=n'->rn n L c r=rn n' L c r
 | 0,n',L,c,r,h,h'=>by unfold n1 at h;omega
 | n+1,0,L,c,r,h,h'=>by unfold n1 at h';omega
 | n+1,n'+1,L,c,r,h,h'=>by
  have hl:∀ L' x F,rnL (rn n L') c.l x F=rnL (rn n' L') c.l x F:=fun L' x F=>rnL_same c.l x F fun d hd y=>rn_fuel n n' L' d y (by have:=n1_mem hd;unfold n1 at h;omega) (by have:=n1_mem hd;unfold n1 at h';omega)
  have hu:∀ L' x F,rnL (rn n L') c.u x F=rnL (rn n' L') c.u x F:=fun L' x F=>rnL_same c.u x F fun d hd y=>rn_fuel n n' L' d y (by have:=n1_mem hd;unfold n1 at h;omega) (by have:=n1_mem hd;unfold n1 at h';omega)
  rw[rn,rn];split
  ·rfl
  split
  ·rw[hl]
  split
  ·congr 1
   funext b
   cases b
   ·exact hu L r []
   ·exact hl L r []
  split
  ·congr 1
   funext l
   congr 1
   funext _
   exact lp_same (fun i v x=>hl _ x []) l 0 r []
  ·congr 1
   funext L'
   exact hl L' r []
theorem rnL_fuel {n n':Nat} {L:List C} {cs:List Co} (h:szL cs<=n) (h':szL cs<=n') (r:Int) (F:List T):rnL (rn n L) cs r F=rnL (rn n' L) cs r F:=rnL_same cs r F fun d hd x=>rn_fuel n n' L d x (by have:=n1_mem hd;omega) (by have:=n1_mem hd;omega)
end Go.Proofs.YtdolgmmldncfkaaGreatDoor.GRf

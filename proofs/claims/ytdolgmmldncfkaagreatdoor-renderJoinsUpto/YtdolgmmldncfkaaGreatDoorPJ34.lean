import Derived.Test.YtdolgmmldncfkaaGreatDoorPJ04
import Derived.Test.YtdolgmmldncfkaaGreatDoorPJ22
import Derived.Test.YtdolgmmldncfkaaGreatDoorPJ30
import Derived.Test.YtdolgmmldncfkaaGreatDoorPJ33
open Go.Proofs.Tryz
set_option linter.unusedVariables false
set_option maxRecDepth 20000
set_option maxHeartbeats 12800000
namespace Go.Proofs.YtdolgmmldncfkaaGreatDoor.GTh
open Tak
open Go.RowKit Base VSm VRs JRv GPl GTr GEn GBu GBe GNs GRe GZp KVp
open VPure hiding evL
open TBase (T)
open KBase (Pt Fld Co RP RF)
open IBase (Oi)
theorem catch_idle (q:Addr) (w:World) :
  CallsD prog 33 #[.pointer (some q)] .returning w fun e u' w'=>e=.returned (.tuple #[])/\u'=.returning/\w'=w:=by
 refine callsD_of_wpS func33 rfl fun c₀ cs hu=>?_
 apply wpS_seq
 apply wpS_region
 simp [wpOpsS, go_sem, recoverD, hu, ntmps33, Exit.thenS, as_no]
 refine wpS_of_wp ?_;refine wp_tmps (#[.pointer (some q),.int .i64 0,.bool false,.tuple #[.int .i64 0,.bool false],.nilIface,.tuple #[.int .i64 0,.bool false],.int .i64 0,.bool false,undef,undef]) rfl ?_;go_wp2
 cases c₀;simp_all [bodyPostS, results, results33]
theorem catch_fault (M:Nat) (c0:Int) (older:List PanicEntry) (w:World) (z0:Value) (hM:w.heap[M]? = some (.cells #[z0] 31 (0,0))) :
  CallsD prog 33 #[.pointer (some ⟨M,0,none⟩)] (.panicking ({ v:=.iface 31 (.int .i64 c0),recovered:=false } :: older)) w fun e u' w'=>e=.returned (.tuple #[]) /\
   u'=.panicking ({ v:=.iface 31 (.int .i64 c0),recovered:=true } :: older)/\w.setCell ⟨M,0,none⟩ (.int .i64 c0)=w':=by
 have e0:w.cell? ⟨M,0,none⟩=some z0:=by simp [World.cell?, hM]
 have g0:=Base.frozen_box hM 0;refine callsD_of_wpS func33 rfl fun c₀ cs hu=>?_
 apply wpS_seq
 apply wpS_region
 simp [wpOpsS, go_sem, recoverD, hu, ntmps33, Exit.thenS, as_yes]
 refine wpS_of_wp ?_;refine wp_tmps (L:=#[.pointer (some ⟨M,0,none⟩),.int .i64 c0,.bool true,.tuple #[.int .i64 c0,.bool true],.iface 31 (.int .i64 c0),.tuple #[.int .i64 c0,.bool true],.int .i64 c0,.bool true,undef,undef]) ?e1 ?e2
 case e1=>simp [Array.replicate_succ]
 case e2=>
  clear hM;go_wp2_with fail
  exact⟨rfl,_,rfl,.tuple #[],results_none rfl _ _ _,rfl,rfl,rfl⟩
theorem set4 {W W9:World} {R:Nat} {z0 z1 z2 z3 a b c d:Value} {t:TypeId} (h:W.heap[R]? = some (.cells #[z0,z1,z2,z3] t (0,0))) (e:(((W.setCell ⟨R,0,none⟩ a).setCell ⟨R,1,none⟩ b).setCell ⟨R,2,none⟩ c).setCell ⟨R,3,none⟩ d=W9) :
  W9.heap[R]? = some (.cells #[a,b,c,d] t (0,0))/\(∀ B,B<=R->Below B W W9)/\W9.heap.size=W.heap.size/\∀ k,k≠R->W9.heap[k]? = W.heap[k]?:=by
 subst e;refine⟨heap_set _ _ _ _ _ _ (heap_set _ _ _ _ _ _ (heap_set _ _ _ _ _ _ (heap_set _ _ _ _ _ _ h))),fun B hB=>(((((Below.refl B W).setCell (p:=⟨R,0,none⟩) hB a).setCell (p:=⟨R,1,none⟩) hB b).setCell (p:=⟨R,2,none⟩) hB c).setCell (p:=⟨R,3,none⟩) hB d),by simp [World.size_setCell],fun k hk=>?_⟩;rw[Below.heap_setCell _ _ _ _ hk,Below.heap_setCell _ _ _ _ hk,Below.heap_setCell _ _ _ _ hk,Below.heap_setCell _ _ _ _ hk]
theorem wr_made {K m:Nat} {U:World} {B Bb X g cap lo:Nat} {c:C} {Z:List Int} {an al:Option Addr} {ln cn ll cl:Nat} (hbox:U.heap[B]? = some (.cells (wk (.slice (some ⟨X,0,none⟩) 1 1) (mkr Bb) (szv (g,Z,cap)) 4096) 82 (0,0))) (hKB:K<=B) (hKb:K<=Bb) (hKX:K<=X) (hne:B≠Bb) (hXB:X≠B) (hXb:X≠Bb) (hgB:g≠B) (hgb:g≠Bb) (hXg:X≠g)
  (hX:U.heap[X]? = some (.cells #[.int .i64 c.k,.bool c.b,.int .i64 c.i,.string c.s,.slice an ln cn,.slice al ll cl] 26 (0,0))) (hin:Base.In false (fun b=>b<K) U (m+1) (.agg #[.int .i64 c.k,.bool c.b,.int .i64 c.i,.string c.s,.slice an ln cn,.slice al ll cl]) c) (oz:Oi U lo (szv (g,Z,cap)) Z) (hwf:wf c) (htk:∀ W',Below K U W'->Digits.Tab W'):Wr K m U B Bb (.slice (some ⟨X,0,none⟩) 1 1) (g,Z,cap) 4096 [c]:=by
 refine⟨hbox,hKB,hKb,hne,?_,htk,?_,?_,⟨(GSz.oi_lt oz (g:=g) rfl).2,hgB,hgb,fun e=>hXg (Option.some.inj e)⟩,fun j hj=>?_,?_⟩
 ·intro j c' h
  unfold rh at h;split at h
  ·have:c' ∈ [c]:=List.mem_of_getElem? h
   rw[List.mem_singleton.1 this];exact hwf
  ·cases h
 ·refine⟨some ⟨X,0,none⟩,1,rfl,by simp,by simp,by omega,fun j hj=>?_⟩
  obtain rfl:j=0:=by simpa using hj
  obtain⟨c0,c1,c2,c3,c4,c5⟩:=six_box hX;exact⟨X,_,rfl,⟨_,_,_,_,_,_,rfl,by simpa using c0,by simpa using c1,by simpa using c2,by simpa using c3,by simpa using c4,by simpa using c5⟩,hin⟩
 ·intro x hx
  obtain rfl:X=x:=Option.some.inj hx;exact⟨hKX,(Array.getElem?_eq_some_iff.1 hX).1,hXB,hXb⟩
 ·have:=Oi.at oz (k:=j) hj
  simp only [Nat.zero_add] at this;exact this.1
 ·refine⟨[.agg #[.int .i64 c.k,.bool c.b,.int .i64 c.i,.string c.s,.slice an ln cn,.slice al ll cl]],⟨?_,?_⟩,rfl,fun j h1 h2=>?_⟩
  ·refine⟨rfl,.inr ⟨X,1,_,rfl,hKX,hX,by simp,by simp [maxLen],by simp,by simp [Base.flat, Value.cells]⟩⟩
  ·intro u hu
   rw[List.mem_singleton.1 hu];exact⟨_,_,_,_,_,_,rfl,by simp [Value.oneCell']⟩
  ·obtain rfl:j=0:=by simpa using h1
   exact hin
theorem wp_strict {P:Program} {s:Code} {K:Act->World->Prop} {Q':Exit->Act->World->Prop} {a:Act} {w:World} (h:s.wp P (Exit.then K (fun _ _ _=>False)) a w):s.wp P (Exit.then K Q') a w:=by
 refine wp_mono h ?_;intro e a' w' hq;cases e <;> first | exact hq | exact hq.elim
def MadeW (K m Bb:Nat) (w:World) (cs:List Co) (c:C) (B:Nat) (U:World):Prop:=
 ∃ XX g cap,Wr K m U B Bb (.slice (some ⟨XX,0,none⟩) 1 1) (g,zs cs,cap) 4096 [c]/\Below w.heap.size w U/\w.heap.size+1<B/\w.heap.size+1<XX/\XX<U.heap.size/\U.heap[w.heap.size+1]? = some (.cells #[.int .i64 0] 31 (0,0))/\U.heap[Bb]? = some (.cells #[.slice none 0 0] 57 (0,0))
theorem made_of {K m Bb:Nat} {w U3 Uf:World} {cs:List Co} {c:C} {BB XX g cap lo:Nat} {an al:Option Addr} {ln cn ll cl:Nat} (hKw:K<=Bb/\Bb<w.heap.size) (hne:True) (hin:Base.In false (fun b=>b<K) w (m+1) (.agg #[.int .i64 c.k,.bool c.b,.int .i64 c.i,.string c.s,.slice an ln cn,.slice al ll cl]) c) (hwf:wf c) (htk:∀ W',Below K w W'->Digits.Tab W') (bw:Below w.heap.size w U3)
  (e1:Uf.heap[BB]? = some (.cells #[.slice (some ⟨XX,0,none⟩) 1 1,mkr Bb,.slice (some ⟨g,0,none⟩) (zs cs).length cap,.int .i64 4096] 82 (0,0))) (e2:∀ B,B<=BB->Below B U3 Uf) (e3:Uf.heap.size=U3.heap.size) (e4:∀ k,k≠BB->Uf.heap[k]? = U3.heap[k]?)
  (gX:U3.heap[XX]? = some (.cells #[.int .i64 c.k,.bool c.b,.int .i64 c.i,.string c.s,.slice an ln cn,.slice al ll cl] 26 (0,0))) (oZ:Oi U3 lo (.slice (some ⟨g,0,none⟩) (zs cs).length cap) (zs cs)) (hm:U3.heap[w.heap.size+1]? = some (.cells #[.int .i64 0] 31 (0,0))) (hbb:U3.heap[Bb]? = some (.cells #[.slice none 0 0] 57 (0,0))) (h1:w.heap.size+1<BB) (h2:w.heap.size+1<XX) (h3:XX≠BB) (h4:w.heap.size+1<g/\g≠BB/\g≠XX):MadeW K m Bb w cs c BB Uf:=by
 have bf:Below w.heap.size w Uf:=bw.trans (e2 _ (by omega));refine⟨XX,g,cap,wr_made (lo:=lo) e1 (by omega) (by omega) (by omega) (by omega) (by omega) (by omega) h4.2.1 (by omega) (fun e=>h4.2.2 e.symm) ((e4 XX h3).trans gX) (hin.keep (fun b hb hl=>bf.block b hl)) (GSz.oi_same oZ fun q hq=>e4 q (fun e=>by have:g=q:=Option.some.inj hq;omega)) hwf (fun W hW=>htk W ((bf.mono (by omega)).trans hW)),bf,h1,h2,?_,(e4 _ (by omega)).trans hm,(e4 _ (by omega)).trans hbb⟩;have:=(Array.getElem?_eq_some_iff.1 gX).1;omega
def MadeE (Bb:Nat) (w:World) (B:Nat) (U:World):Prop:=
 ∃ pv zv,U.heap[B]? = some (.cells #[pv,mkr Bb,zv,.int .i64 4096] 82 (0,0))/\Below w.heap.size w U/\w.heap.size+1<B/\U.heap[w.heap.size+1]? = some (.cells #[.int .i64 0] 31 (0,0))/\U.heap[Bb]? = some (.cells #[.slice none 0 0] 57 (0,0))
theorem nodes_nil {B:Nat} {ca:Option Addr} {ccap:Nat} {i:Int} (w:World):Calls prog 35 #[ptr B,.slice ca 0 ccap,.int .i64 i] w fun e w'=>(∃ v,e=.returned v)/\w'=w:=by
 go_enter func35,ntmps35;go_wp2_with fail
 go_loopw [2,10] (fun nm j wr=>j=.int .i64 0/\w=wr) (fun _ _ _=>0)
 case atStart=>exact⟨rfl,rfl⟩
 case round=>
  obtain⟨rfl,hw⟩:=hrel;subst hw;have hnlt:decide ((0:Int)<(0:Int))=false:=by simp
  go_wp2_with fail
  go_end0
  exact⟨⟨_,rfl⟩,rfl⟩
theorem made_gen {K m Bb:Nat} {w U3 Uf:World} {cs:List Co} {c:C} {BB XX cap lo:Nat} {g:Option Addr} {an al:Option Addr} {ln cn ll cl:Nat} (hKw:K<=Bb/\Bb<w.heap.size) (hne:True) (hin:Base.In false (fun b=>b<K) w (m+1) (.agg #[.int .i64 c.k,.bool c.b,.int .i64 c.i,.string c.s,.slice an ln cn,.slice al ll cl]) c) (hwf:wf c) (htk:∀ W',Below K w W'->Digits.Tab W') (bw:Below w.heap.size w U3)
  (e1:Uf.heap[BB]? = some (.cells #[.slice (some ⟨XX,0,none⟩) 1 1,mkr Bb,.slice g (zs cs).length cap,.int .i64 4096] 82 (0,0))) (e2:∀ B,B<=BB->Below B U3 Uf) (e3:Uf.heap.size=U3.heap.size) (e4:∀ k,k≠BB->Uf.heap[k]? = U3.heap[k]?)
  (gX:U3.heap[XX]? = some (.cells #[.int .i64 c.k,.bool c.b,.int .i64 c.i,.string c.s,.slice an ln cn,.slice al ll cl] 26 (0,0))) (oZ:Oi U3 lo (.slice g (zs cs).length cap) (zs cs)) (hm:U3.heap[w.heap.size+1]? = some (.cells #[.int .i64 0] 31 (0,0))) (hbb:U3.heap[Bb]? = some (.cells #[.slice none 0 0] 57 (0,0))) (h1:w.heap.size+1<BB) (h2:w.heap.size+1<XX) (h3:XX≠BB) (h4:∀ q,g=some ⟨q,0,none⟩->w.heap.size+1<q/\q≠BB/\q≠XX):MadeE Bb w BB Uf/\(0<szL cs->MadeW K m Bb w cs c BB Uf):=by
 refine⟨⟨_,_,e1,bw.trans (e2 _ (by omega)),h1,(e4 _ (by omega)).trans hm,(e4 _ (by omega)).trans hbb⟩,fun hp=>?_⟩;obtain⟨q,cap',e,-,-⟩:=Oi.pos oZ (by rw[zs_len];exact hp);cases e;exact made_of hKw hne hin hwf htk bw e1 e2 e3 e4 gX oZ hm hbb h1 h2 h3 (h4 q rfl)
theorem through_gen {K m mc Bb:Nat} {w:World} {cv v:Value} {cs:List Co} {c:C} {A:Except Nat (List T × Int)} (hKw:K<=Bb/\Bb<w.heap.size) (hcs:KBase.InL false (fun b=>b<K) w mc cv cs) (hin:Base.In false (fun b=>b<K) w (m+1) v c) (hbb:w.heap[Bb]? = some (.cells #[.slice none 0 0] 57 (0,0))) (hnil:szL cs=0->cs=[]/\A=.ok ([],4096)) (hchk:KNd.chk cs=0) (hdep:Shallow.dep c<=4096) (hms:(Measure.ms 0 0 (Walk.pl 1 c)).2.2=0) (hwf:wf c) (htk:∀ W',Below K w W'->Digits.Tab W') (hA0:A ≠ .error 0)
  (hN:0<szL cs->∀ W B Pv sv,Wr K m W B Bb Pv sv 4096 [c]->sv.2.1=zs cs->Bt W.heap.size W Bb Pv.ownBlock (.slice none 0 0) []->Below K w W->Calls prog 35 #[ptr B,cv,.int .i64 0] W fun e w'=>KR (Rs K m B Bb sv [c]) W.heap.size B Bb Pv.ownBlock W A e w') :
  Calls prog 18 #[cv,v,mkr Bb] w fun e w'=>TR Bb w (bnd A fun a=>.ok a.1) e w':=by
 have hmf:∀ (fn:Fn) (first cap:Array Value) (w:World),(Instr.makeFunc fn first cap).run prog w=.ok (.func fn first cap) w:=fun _ _ _ _=>rfl
 obtain⟨an,ln,cn,al,ll,cl,rfl⟩:=in_shape hin
 have HCS:=hid hcs;obtain⟨ca,ccap,rfl,hlc,hcm,hlen,-,-⟩:=hcs;obtain⟨W,hW⟩ : ∃ W,(w.alloc (.cells #[.int .i64 c.k,.bool c.b,.int .i64 c.i,.string c.s,.slice an ln cn,.slice al ll cl] 26)).alloc (.cells #[.int .i64 0] 31)=W:=⟨_,rfl⟩;have bW:Below w.heap.size w W:=by rw[<- hW];exact ((Below.refl _ w).alloc (Nat.le_refl _) _).alloc (by simp) _
 have sW:W.heap.size=w.heap.size+2:=by rw[<- hW];simp
 have zV:W.heap[w.heap.size]? = some (.cells #[.int .i64 c.k,.bool c.b,.int .i64 c.i,.string c.s,.slice an ln cn,.slice al ll cl] 26 (0,0)):=by rw[<- hW,Below.heap_alloc _ _ _ (by simp),heap_alloc_new]
 have zM:W.heap[w.heap.size+1]? = some (.cells #[.int .i64 0] 31 (0,0)):=by
  rw[<- hW];have:=heap_alloc_new (w.alloc (.cells #[.int .i64 c.k,.bool c.b,.int .i64 c.i,.string c.s,.slice an ln cn,.slice al ll cl] 26)) (.cells #[.int .i64 0] 31);rwa [World.size_alloc] at this
 have cC:=KNd.check_c (m:=mc) (w:=W) ((KBase.InL.keep (w:=w) (w':=W) (fun b hb _=>bW.block b (by omega)) HCS.out).weak (fun _ _=>trivial) false id mc (Nat.le_refl _));rw[hchk] at cC;have cV:Hid (∀ W1,Below w.heap.size w W1->Calls prog 32 #[.agg #[.int .i64 c.k,.bool c.b,.int .i64 c.i,.string c.s,.slice an ln cn,.slice al ll cl]] W1 fun e w'=>e=.returned (.int .i64 0)/\Below W1.heap.size W1 w'):=fun W1 h1=>by
  have:=GMw.check_all (w:=W1) ((hin.keep (w':=W1) (fun b hb hl=>h1.block b hl)).weak (fun _ _=>trivial) false id _ (Nat.le_refl _));rw[hms] at this;exact this
 have HIN:=hid hin
 have HNE:Hid True:=trivial;have HWF:=hid hwf;have HTK:=hid htk;have HSZ:Hid (szL cs<=60000):=by
  have:=GZp.sz_ok hchk;show _<=_;omega
 have HNIL:=hid hnil;have HBB:=hid hbb;have HNN:=hid hN;have HA0:=hid hA0;have HBW:=hid bW;have HZV:=hid zV;have HZM:=hid zM;obtain⟨q0,q1,q2,q3,q4,q5⟩:=six_box zV;clear hin hwf htk hbb hN hA0 hms hdep hchk hnil bW zV zM;go_enter_defers func18,ntmps18;go_wp2_with fail
 try rw[hW]
 refine cC.mono ?_;rintro e W1 ⟨rfl,b1⟩;have hs1:=b1.size;have HB1:=hid (HBW.out.trans (b1.mono (by omega)));have HV1:=hid ((b1.block w.heap.size (by omega)).trans HZV.out);have HM1:=hid ((b1.block (w.heap.size+1) (by omega)).trans HZM.out);have c2:=cV.out W1 HB1.out;clear q0 q1 q2 q3 q4 q5 b1 cC;obtain⟨q0,q1,q2,q3,q4,q5⟩:=six_box HV1.out;go_wp2_with fail
 refine c2.mono ?_;rintro e W2 ⟨rfl,b2⟩;have hs2:=b2.size;have HB2:=hid (HB1.out.trans (b2.mono (by omega)));have HV2:=hid ((b2.block w.heap.size (by omega)).trans HV1.out);have HM2:=hid ((b2.block (w.heap.size+1) (by omega)).trans HM1.out);clear q0 q1 q2 q3 q4 q5 b2 c2;obtain⟨q0,q1,q2,q3,q4,q5⟩:=six_box HV2.out;go_upto_region 8 with fail
 go_cut [9] from 21 to 26 (fun p wc=>∃ BB,p=ptr BB/\MadeE Bb w BB wc/\(0<szL cs->MadeW K m Bb w cs c BB wc))
 case first=>
  rename_i JJ KK hJJ hKK
  refine wp_strict ?_;obtain⟨D,hD⟩ : ∃ D,W2.drew=D:=⟨_,rfl⟩;have BW0:Below w.heap.size w D:=by rw[<- hD];exact HB2.out.drew
  have HSD:Hid (D.heap.size=W2.heap.size):=by rw[<- hD];rfl
  have sD:W2.heap.size<=D.heap.size:=by rw[HSD.out];exact Nat.le_refl _
  have KEEP0:∀ b,b<K->D.heap[b]? = w.heap[b]?:=fun b hb=>BW0.block b (by omega)
  have hdh:∀ b:Nat,D.heap[b]? = W2.heap[b]?:=fun b=>by rw[<- hD];rfl
  have v0:=(hdh w.heap.size).trans HV2.out;have m0:=(hdh (w.heap.size+1)).trans HM2.out;have bb0:=(BW0.block Bb (by omega)).trans HBB.out;refine wp_region_held_drew (S:=fun w'=>w'.cell? ⟨w.heap.size,0,none⟩=some (.int .i64 c.k)/\w'.cell? ⟨w.heap.size,1,none⟩=some (.bool c.b)/\w'.cell? ⟨w.heap.size,2,none⟩=some (.int .i64 c.i)/\w'.cell? ⟨w.heap.size,3,none⟩=some (.string c.s)/\w'.cell? ⟨w.heap.size,4,none⟩=some (.slice an ln cn)/\w'.cell? ⟨w.heap.size,5,none⟩=some (.slice al ll cl)) (by kernel_rfl) (by exact⟨q0,q1,q2,q3,q4,q5⟩) (fun hHeld=>?_);refine tkH 0 rfl ?_;try simp only [ptH]
  refine tkH 2 rfl ?_;try simp only [ptH]
  refine tkH 3 rfl ?_;try simp only [ptH]
  refine rdH [1,4,6] ?_;refine AllReadyH.cons rfl (fun K0 hK=>?_) (AllReadyH.cons rfl (fun K0 hK=>?_) (AllReadyH.cons rfl (fun K0 hK=>?_) (AllReadyH.nil)))
  ·go_simp
   try rw[hD]
   try rw[<- HSD.out]
   obtain⟨U1,hU1⟩ : ∃ U,D.alloc (.cells #[.int .i64 c.k,.bool c.b,.int .i64 c.i,.string c.s,.slice an ln cn,.slice al ll cl] 26)=U:=⟨_,rfl⟩;try rw[hU1]
   have b1:=alB hU1;have s1:=alS hU1;have g1:=alG hU1;clear hU1;have KEEP1:∀ b,b<K->U1.heap[b]? = w.heap[b]?:=fun b hb=>(b1.block b (by omega)).trans (KEEP0 b hb)
   have BW1:Below w.heap.size w U1:=BW0.trans (b1.mono (by omega));have v1:=(b1.block w.heap.size (by omega)).trans v0;have m1:=(b1.block (w.heap.size+1) (by omega)).trans m0;have bb1:=(b1.block Bb (by omega)).trans bb0;obtain⟨q0,q1,q2,q3,q4,q5⟩:=six_box v1;refine hK.out _ _ (by exact⟨q0,q1,q2,q3,q4,q5⟩) (fun hHeld=>?_);clear hK K0;try simp only [ptH]
   refine rdH [4,6] ?_;refine AllReadyH.cons rfl (fun K0 hK=>?_) (AllReadyH.cons rfl (fun K0 hK=>?_) (AllReadyH.nil))
   ·go_simp
    try rw[hD]
    try rw[<- HSD.out]
    refine (GSz.sizes_c mc U1 (.slice ca cs.length ccap) (.slice none 0 0) cs [] K U1.heap.size (by omega) (Nat.le_refl _) (KBase.InL.keep (w:=w) (w':=U1) (fun b hb _=>KEEP1 b hb) HCS.out) (IBase.oi_nil _ _) (by simpa using HSZ.out)).mono ?_;rintro ee U2 ⟨zv,rfl,oz,kz,-⟩;rw[List.nil_append] at oz;have b2:=kz.below;have s2:=kz.size;obtain⟨g,cap,rfl⟩:=Oi.shape oz;have HGZ:Hid (∀ q,g=some ⟨q,0,none⟩->_):=fun q e=>GSz.oi_lt oz (g:=q) (by rw[e];rfl)
    clear kz;have g1_2:=(b2.block _ (by omega)).trans g1;have KEEP2:∀ b,b<K->U2.heap[b]? = w.heap[b]?:=fun b hb=>(b2.block b (by omega)).trans (KEEP1 b hb)
    have BW2:Below w.heap.size w U2:=BW1.trans (b2.mono (by omega));have v2:=(b2.block w.heap.size (by omega)).trans v1;have m2:=(b2.block (w.heap.size+1) (by omega)).trans m1;have bb2:=(b2.block Bb (by omega)).trans bb1;obtain⟨q0,q1,q2,q3,q4,q5⟩:=six_box v2;refine hK.out _ _ (by exact⟨q0,q1,q2,q3,q4,q5⟩) (fun hHeld=>?_);clear hK K0;try simp only [ptH]
    refine tkH 5 rfl ?_;try simp only [ptH]
    refine rdH [6] ?_;refine alH rfl fun K0 hK=>?_
    go_simp
    try rw[hD]
    try rw[<- HSD.out]
    obtain⟨U3,hU3⟩ : ∃ U,U2.alloc (.cells #[.slice none 0 0,.nilIface,.slice none 0 0,.int .i64 0] 82)=U:=⟨_,rfl⟩;try rw[hU3]
    have b3:=alB hU3;have s3:=alS hU3;have g3:=alG hU3;clear hU3;have g1_2_3:=(b3.block _ (by omega)).trans g1_2;have oz_3:=Oi.below oz b3;have KEEP3:∀ b,b<K->U3.heap[b]? = w.heap[b]?:=fun b hb=>(b3.block b (by omega)).trans (KEEP2 b hb)
    have BW3:Below w.heap.size w U3:=BW2.trans (b3.mono (by omega));have v3:=(b3.block w.heap.size (by omega)).trans v2;have m3:=(b3.block (w.heap.size+1) (by omega)).trans m2;have bb3:=(b3.block Bb (by omega)).trans bb2;obtain⟨q0,q1,q2,q3,q4,q5⟩:=six_box v3;refine hK.out _ _ (by exact⟨q0,q1,q2,q3,q4,q5⟩) (fun hHeld=>?_);clear hK K0;try simp only [ptH]
    obtain⟨BB,hBB⟩ : ∃ BB,U2.heap.size=BB:=⟨_,rfl⟩;obtain⟨XX,hXX⟩ : ∃ XX,D.heap.size=XX:=⟨_,rfl⟩;have gB:=g3;have gX:=g1_2_3;have oZ:=oz_3;rw[hBB] at gB;rw[hXX] at gX;try rw[hBB]
    try rw[hXX]
    have hbs:w.heap.size+1<BB/\w.heap.size+1<XX/\XX≠BB:=by omega
    have HBQ:Hid (∀ q,g=some ⟨q,0,none⟩->w.heap.size+1<q/\q≠BB/\q≠XX):=fun q e=>by have:=HGZ.out q e;omega
    obtain⟨k0,k1,k2,k3⟩:=XBase.four_box gB;obtain⟨f0,f1,f2,f3⟩:=Base.frz4 gB;obtain⟨Uf,hUf⟩:=stc4 U3 BB (.slice (some ⟨XX,0,none⟩) 1 1) (mkr Bb) (.slice g (zs cs).length cap) (.int .i64 4096);obtain⟨e1,e2,e3,e4⟩:=set4 gB hUf;have HL:=hid (made_gen hKw HNE.out HIN.out HWF.out HTK.out BW3 e1 e2 e3 e4 gX oZ m3 bb3 hbs.1 hbs.2.1 hbs.2.2 HBQ.out);have vf:=(e4 w.heap.size (by omega)).trans v3;obtain⟨q0,q1,q2,q3,q4,q5⟩:=six_box vf;clear e1 e2 e3 e4 gB gX oZ;refine rdH [7] ?_;refine alH rfl fun K0 hK=>?_
    go_wp2_with fail
    try rw[hUf]
    refine hK.out _ _ (by exact⟨q0,q1,q2,q3,q4,q5⟩) (fun hHeld=>?_);clear hK K0;try simp only [ptH]
    refine dnH ?_;go_wp2_with fail
    exact Met.intro (hJJ _ _ ⟨_,_,_,_,_,_,_,⟨_,rfl,HL.out⟩,rfl⟩)
   ·go_simp
    try rw[hD]
    try rw[<- HSD.out]
    obtain⟨U2,hU2⟩ : ∃ U,U1.alloc (.cells #[.slice none 0 0,.nilIface,.slice none 0 0,.int .i64 0] 82)=U:=⟨_,rfl⟩;try rw[hU2]
    have b2:=alB hU2;have s2:=alS hU2;have g2:=alG hU2;clear hU2;have g1_2:=(b2.block _ (by omega)).trans g1;have KEEP2:∀ b,b<K->U2.heap[b]? = w.heap[b]?:=fun b hb=>(b2.block b (by omega)).trans (KEEP1 b hb)
    have BW2:Below w.heap.size w U2:=BW1.trans (b2.mono (by omega));have v2:=(b2.block w.heap.size (by omega)).trans v1;have m2:=(b2.block (w.heap.size+1) (by omega)).trans m1;have bb2:=(b2.block Bb (by omega)).trans bb1;obtain⟨q0,q1,q2,q3,q4,q5⟩:=six_box v2;refine hK.out _ _ (by exact⟨q0,q1,q2,q3,q4,q5⟩) (fun hHeld=>?_);clear hK K0;try simp only [ptH]
    refine rdH [4] ?_;refine alH rfl fun K0 hK=>?_
    go_simp
    try rw[hD]
    try rw[<- HSD.out]
    refine (GSz.sizes_c mc U2 (.slice ca cs.length ccap) (.slice none 0 0) cs [] K U2.heap.size (by omega) (Nat.le_refl _) (KBase.InL.keep (w:=w) (w':=U2) (fun b hb _=>KEEP2 b hb) HCS.out) (IBase.oi_nil _ _) (by simpa using HSZ.out)).mono ?_;rintro ee U3 ⟨zv,rfl,oz,kz,-⟩;rw[List.nil_append] at oz;have b3:=kz.below;have s3:=kz.size;obtain⟨g,cap,rfl⟩:=Oi.shape oz;have HGZ:Hid (∀ q,g=some ⟨q,0,none⟩->_):=fun q e=>GSz.oi_lt oz (g:=q) (by rw[e];rfl)
    clear kz;have g1_2_3:=(b3.block _ (by omega)).trans g1_2;have g2_3:=(b3.block _ (by omega)).trans g2;have KEEP3:∀ b,b<K->U3.heap[b]? = w.heap[b]?:=fun b hb=>(b3.block b (by omega)).trans (KEEP2 b hb)
    have BW3:Below w.heap.size w U3:=BW2.trans (b3.mono (by omega));have v3:=(b3.block w.heap.size (by omega)).trans v2;have m3:=(b3.block (w.heap.size+1) (by omega)).trans m2;have bb3:=(b3.block Bb (by omega)).trans bb2;obtain⟨q0,q1,q2,q3,q4,q5⟩:=six_box v3;refine hK.out _ _ (by exact⟨q0,q1,q2,q3,q4,q5⟩) (fun hHeld=>?_);clear hK K0;try simp only [ptH]
    refine tkH 5 rfl ?_;try simp only [ptH]
    obtain⟨BB,hBB⟩ : ∃ BB,U1.heap.size=BB:=⟨_,rfl⟩;obtain⟨XX,hXX⟩ : ∃ XX,D.heap.size=XX:=⟨_,rfl⟩;have gB:=g2_3;have gX:=g1_2_3;have oZ:=oz;rw[hBB] at gB;rw[hXX] at gX;try rw[hBB]
    try rw[hXX]
    have hbs:w.heap.size+1<BB/\w.heap.size+1<XX/\XX≠BB:=by omega
    have HBQ:Hid (∀ q,g=some ⟨q,0,none⟩->w.heap.size+1<q/\q≠BB/\q≠XX):=fun q e=>by have:=HGZ.out q e;omega
    obtain⟨k0,k1,k2,k3⟩:=XBase.four_box gB;obtain⟨f0,f1,f2,f3⟩:=Base.frz4 gB;obtain⟨Uf,hUf⟩:=stc4 U3 BB (.slice (some ⟨XX,0,none⟩) 1 1) (mkr Bb) (.slice g (zs cs).length cap) (.int .i64 4096);obtain⟨e1,e2,e3,e4⟩:=set4 gB hUf;have HL:=hid (made_gen hKw HNE.out HIN.out HWF.out HTK.out BW3 e1 e2 e3 e4 gX oZ m3 bb3 hbs.1 hbs.2.1 hbs.2.2 HBQ.out);have vf:=(e4 w.heap.size (by omega)).trans v3;obtain⟨q0,q1,q2,q3,q4,q5⟩:=six_box vf;clear e1 e2 e3 e4 gB gX oZ;refine rdH [7] ?_;refine alH rfl fun K0 hK=>?_
    go_wp2_with fail
    try rw[hUf]
    refine hK.out _ _ (by exact⟨q0,q1,q2,q3,q4,q5⟩) (fun hHeld=>?_);clear hK K0;try simp only [ptH]
    refine dnH ?_;go_wp2_with fail
    exact Met.intro (hJJ _ _ ⟨_,_,_,_,_,_,_,⟨_,rfl,HL.out⟩,rfl⟩)
  ·go_simp
   try rw[hD]
   try rw[<- HSD.out]
   refine (GSz.sizes_c mc D (.slice ca cs.length ccap) (.slice none 0 0) cs [] K D.heap.size (by omega) (Nat.le_refl _) (KBase.InL.keep (w:=w) (w':=D) (fun b hb _=>KEEP0 b hb) HCS.out) (IBase.oi_nil _ _) (by simpa using HSZ.out)).mono ?_;rintro ee U1 ⟨zv,rfl,oz,kz,-⟩;rw[List.nil_append] at oz;have b1:=kz.below;have s1:=kz.size;obtain⟨g,cap,rfl⟩:=Oi.shape oz;have HGZ:Hid (∀ q,g=some ⟨q,0,none⟩->_):=fun q e=>GSz.oi_lt oz (g:=q) (by rw[e];rfl)
   clear kz;have KEEP1:∀ b,b<K->U1.heap[b]? = w.heap[b]?:=fun b hb=>(b1.block b (by omega)).trans (KEEP0 b hb)
   have BW1:Below w.heap.size w U1:=BW0.trans (b1.mono (by omega));have v1:=(b1.block w.heap.size (by omega)).trans v0;have m1:=(b1.block (w.heap.size+1) (by omega)).trans m0;have bb1:=(b1.block Bb (by omega)).trans bb0;obtain⟨q0,q1,q2,q3,q4,q5⟩:=six_box v1;refine hK.out _ _ (by exact⟨q0,q1,q2,q3,q4,q5⟩) (fun hHeld=>?_);clear hK K0;try simp only [ptH]
   refine rdH [1,6] ?_;refine AllReadyH.cons rfl (fun K0 hK=>?_) (AllReadyH.cons rfl (fun K0 hK=>?_) (AllReadyH.nil))
   ·go_simp
    try rw[hD]
    try rw[<- HSD.out]
    obtain⟨U2,hU2⟩ : ∃ U,U1.alloc (.cells #[.int .i64 c.k,.bool c.b,.int .i64 c.i,.string c.s,.slice an ln cn,.slice al ll cl] 26)=U:=⟨_,rfl⟩;try rw[hU2]
    have b2:=alB hU2;have s2:=alS hU2;have g2:=alG hU2;clear hU2;have oz_2:=Oi.below oz b2;have KEEP2:∀ b,b<K->U2.heap[b]? = w.heap[b]?:=fun b hb=>(b2.block b (by omega)).trans (KEEP1 b hb)
    have BW2:Below w.heap.size w U2:=BW1.trans (b2.mono (by omega));have v2:=(b2.block w.heap.size (by omega)).trans v1;have m2:=(b2.block (w.heap.size+1) (by omega)).trans m1;have bb2:=(b2.block Bb (by omega)).trans bb1;obtain⟨q0,q1,q2,q3,q4,q5⟩:=six_box v2;refine hK.out _ _ (by exact⟨q0,q1,q2,q3,q4,q5⟩) (fun hHeld=>?_);clear hK K0;try simp only [ptH]
    refine tkH 5 rfl ?_;try simp only [ptH]
    refine rdH [6] ?_;refine alH rfl fun K0 hK=>?_
    go_simp
    try rw[hD]
    try rw[<- HSD.out]
    obtain⟨U3,hU3⟩ : ∃ U,U2.alloc (.cells #[.slice none 0 0,.nilIface,.slice none 0 0,.int .i64 0] 82)=U:=⟨_,rfl⟩;try rw[hU3]
    have b3:=alB hU3;have s3:=alS hU3;have g3:=alG hU3;clear hU3;have oz_2_3:=Oi.below oz_2 b3;have g2_3:=(b3.block _ (by omega)).trans g2;have KEEP3:∀ b,b<K->U3.heap[b]? = w.heap[b]?:=fun b hb=>(b3.block b (by omega)).trans (KEEP2 b hb)
    have BW3:Below w.heap.size w U3:=BW2.trans (b3.mono (by omega));have v3:=(b3.block w.heap.size (by omega)).trans v2;have m3:=(b3.block (w.heap.size+1) (by omega)).trans m2;have bb3:=(b3.block Bb (by omega)).trans bb2;obtain⟨q0,q1,q2,q3,q4,q5⟩:=six_box v3;refine hK.out _ _ (by exact⟨q0,q1,q2,q3,q4,q5⟩) (fun hHeld=>?_);clear hK K0;try simp only [ptH]
    obtain⟨BB,hBB⟩ : ∃ BB,U2.heap.size=BB:=⟨_,rfl⟩;obtain⟨XX,hXX⟩ : ∃ XX,U1.heap.size=XX:=⟨_,rfl⟩;have gB:=g3;have gX:=g2_3;have oZ:=oz_2_3;rw[hBB] at gB;rw[hXX] at gX;try rw[hBB]
    try rw[hXX]
    have hbs:w.heap.size+1<BB/\w.heap.size+1<XX/\XX≠BB:=by omega
    have HBQ:Hid (∀ q,g=some ⟨q,0,none⟩->w.heap.size+1<q/\q≠BB/\q≠XX):=fun q e=>by have:=HGZ.out q e;omega
    obtain⟨k0,k1,k2,k3⟩:=XBase.four_box gB;obtain⟨f0,f1,f2,f3⟩:=Base.frz4 gB;obtain⟨Uf,hUf⟩:=stc4 U3 BB (.slice (some ⟨XX,0,none⟩) 1 1) (mkr Bb) (.slice g (zs cs).length cap) (.int .i64 4096);obtain⟨e1,e2,e3,e4⟩:=set4 gB hUf;have HL:=hid (made_gen hKw HNE.out HIN.out HWF.out HTK.out BW3 e1 e2 e3 e4 gX oZ m3 bb3 hbs.1 hbs.2.1 hbs.2.2 HBQ.out);have vf:=(e4 w.heap.size (by omega)).trans v3;obtain⟨q0,q1,q2,q3,q4,q5⟩:=six_box vf;clear e1 e2 e3 e4 gB gX oZ;refine rdH [7] ?_;refine alH rfl fun K0 hK=>?_
    go_wp2_with fail
    try rw[hUf]
    refine hK.out _ _ (by exact⟨q0,q1,q2,q3,q4,q5⟩) (fun hHeld=>?_);clear hK K0;try simp only [ptH]
    refine dnH ?_;go_wp2_with fail
    exact Met.intro (hJJ _ _ ⟨_,_,_,_,_,_,_,⟨_,rfl,HL.out⟩,rfl⟩)
   ·go_simp
    try rw[hD]
    try rw[<- HSD.out]
    obtain⟨U2,hU2⟩ : ∃ U,U1.alloc (.cells #[.slice none 0 0,.nilIface,.slice none 0 0,.int .i64 0] 82)=U:=⟨_,rfl⟩;try rw[hU2]
    have b2:=alB hU2;have s2:=alS hU2;have g2:=alG hU2;clear hU2;have oz_2:=Oi.below oz b2;have KEEP2:∀ b,b<K->U2.heap[b]? = w.heap[b]?:=fun b hb=>(b2.block b (by omega)).trans (KEEP1 b hb)
    have BW2:Below w.heap.size w U2:=BW1.trans (b2.mono (by omega));have v2:=(b2.block w.heap.size (by omega)).trans v1;have m2:=(b2.block (w.heap.size+1) (by omega)).trans m1;have bb2:=(b2.block Bb (by omega)).trans bb1;obtain⟨q0,q1,q2,q3,q4,q5⟩:=six_box v2;refine hK.out _ _ (by exact⟨q0,q1,q2,q3,q4,q5⟩) (fun hHeld=>?_);clear hK K0;try simp only [ptH]
    refine rdH [1] ?_;refine alH rfl fun K0 hK=>?_
    go_simp
    try rw[hD]
    try rw[<- HSD.out]
    obtain⟨U3,hU3⟩ : ∃ U,U2.alloc (.cells #[.int .i64 c.k,.bool c.b,.int .i64 c.i,.string c.s,.slice an ln cn,.slice al ll cl] 26)=U:=⟨_,rfl⟩;try rw[hU3]
    have b3:=alB hU3;have s3:=alS hU3;have g3:=alG hU3;clear hU3;have oz_2_3:=Oi.below oz_2 b3;have g2_3:=(b3.block _ (by omega)).trans g2;have KEEP3:∀ b,b<K->U3.heap[b]? = w.heap[b]?:=fun b hb=>(b3.block b (by omega)).trans (KEEP2 b hb)
    have BW3:Below w.heap.size w U3:=BW2.trans (b3.mono (by omega));have v3:=(b3.block w.heap.size (by omega)).trans v2;have m3:=(b3.block (w.heap.size+1) (by omega)).trans m2;have bb3:=(b3.block Bb (by omega)).trans bb2;obtain⟨q0,q1,q2,q3,q4,q5⟩:=six_box v3;refine hK.out _ _ (by exact⟨q0,q1,q2,q3,q4,q5⟩) (fun hHeld=>?_);clear hK K0;try simp only [ptH]
    refine tkH 5 rfl ?_;try simp only [ptH]
    obtain⟨BB,hBB⟩ : ∃ BB,U1.heap.size=BB:=⟨_,rfl⟩;obtain⟨XX,hXX⟩ : ∃ XX,U2.heap.size=XX:=⟨_,rfl⟩;have gB:=g2_3;have gX:=g3;have oZ:=oz_2_3;rw[hBB] at gB;rw[hXX] at gX;try rw[hBB]
    try rw[hXX]
    have hbs:w.heap.size+1<BB/\w.heap.size+1<XX/\XX≠BB:=by omega
    have HBQ:Hid (∀ q,g=some ⟨q,0,none⟩->w.heap.size+1<q/\q≠BB/\q≠XX):=fun q e=>by have:=HGZ.out q e;omega
    obtain⟨k0,k1,k2,k3⟩:=XBase.four_box gB;obtain⟨f0,f1,f2,f3⟩:=Base.frz4 gB;obtain⟨Uf,hUf⟩:=stc4 U3 BB (.slice (some ⟨XX,0,none⟩) 1 1) (mkr Bb) (.slice g (zs cs).length cap) (.int .i64 4096);obtain⟨e1,e2,e3,e4⟩:=set4 gB hUf;have HL:=hid (made_gen hKw HNE.out HIN.out HWF.out HTK.out BW3 e1 e2 e3 e4 gX oZ m3 bb3 hbs.1 hbs.2.1 hbs.2.2 HBQ.out);have vf:=(e4 w.heap.size (by omega)).trans v3;obtain⟨q0,q1,q2,q3,q4,q5⟩:=six_box vf;clear e1 e2 e3 e4 gB gX oZ;refine rdH [7] ?_;refine alH rfl fun K0 hK=>?_
    go_wp2_with fail
    try rw[hUf]
    refine hK.out _ _ (by exact⟨q0,q1,q2,q3,q4,q5⟩) (fun hHeld=>?_);clear hK K0;try simp only [ptH]
    refine dnH ?_;go_wp2_with fail
    exact Met.intro (hJJ _ _ ⟨_,_,_,_,_,_,_,⟨_,rfl,HL.out⟩,rfl⟩)
  ·go_simp
   try rw[hD]
   try rw[<- HSD.out]
   obtain⟨U1,hU1⟩ : ∃ U,D.alloc (.cells #[.slice none 0 0,.nilIface,.slice none 0 0,.int .i64 0] 82)=U:=⟨_,rfl⟩;try rw[hU1]
   have b1:=alB hU1;have s1:=alS hU1;have g1:=alG hU1;clear hU1;have KEEP1:∀ b,b<K->U1.heap[b]? = w.heap[b]?:=fun b hb=>(b1.block b (by omega)).trans (KEEP0 b hb)
   have BW1:Below w.heap.size w U1:=BW0.trans (b1.mono (by omega));have v1:=(b1.block w.heap.size (by omega)).trans v0;have m1:=(b1.block (w.heap.size+1) (by omega)).trans m0;have bb1:=(b1.block Bb (by omega)).trans bb0;obtain⟨q0,q1,q2,q3,q4,q5⟩:=six_box v1;refine hK.out _ _ (by exact⟨q0,q1,q2,q3,q4,q5⟩) (fun hHeld=>?_);clear hK K0;try simp only [ptH]
   refine rdH [1,4] ?_;refine AllReadyH.cons rfl (fun K0 hK=>?_) (AllReadyH.cons rfl (fun K0 hK=>?_) (AllReadyH.nil))
   ·go_simp
    try rw[hD]
    try rw[<- HSD.out]
    obtain⟨U2,hU2⟩ : ∃ U,U1.alloc (.cells #[.int .i64 c.k,.bool c.b,.int .i64 c.i,.string c.s,.slice an ln cn,.slice al ll cl] 26)=U:=⟨_,rfl⟩;try rw[hU2]
    have b2:=alB hU2;have s2:=alS hU2;have g2:=alG hU2;clear hU2;have g1_2:=(b2.block _ (by omega)).trans g1;have KEEP2:∀ b,b<K->U2.heap[b]? = w.heap[b]?:=fun b hb=>(b2.block b (by omega)).trans (KEEP1 b hb)
    have BW2:Below w.heap.size w U2:=BW1.trans (b2.mono (by omega));have v2:=(b2.block w.heap.size (by omega)).trans v1;have m2:=(b2.block (w.heap.size+1) (by omega)).trans m1;have bb2:=(b2.block Bb (by omega)).trans bb1;obtain⟨q0,q1,q2,q3,q4,q5⟩:=six_box v2;refine hK.out _ _ (by exact⟨q0,q1,q2,q3,q4,q5⟩) (fun hHeld=>?_);clear hK K0;try simp only [ptH]
    refine rdH [4] ?_;refine alH rfl fun K0 hK=>?_
    go_simp
    try rw[hD]
    try rw[<- HSD.out]
    refine (GSz.sizes_c mc U2 (.slice ca cs.length ccap) (.slice none 0 0) cs [] K U2.heap.size (by omega) (Nat.le_refl _) (KBase.InL.keep (w:=w) (w':=U2) (fun b hb _=>KEEP2 b hb) HCS.out) (IBase.oi_nil _ _) (by simpa using HSZ.out)).mono ?_;rintro ee U3 ⟨zv,rfl,oz,kz,-⟩;rw[List.nil_append] at oz;have b3:=kz.below;have s3:=kz.size;obtain⟨g,cap,rfl⟩:=Oi.shape oz;have HGZ:Hid (∀ q,g=some ⟨q,0,none⟩->_):=fun q e=>GSz.oi_lt oz (g:=q) (by rw[e];rfl)
    clear kz;have g1_2_3:=(b3.block _ (by omega)).trans g1_2;have g2_3:=(b3.block _ (by omega)).trans g2;have KEEP3:∀ b,b<K->U3.heap[b]? = w.heap[b]?:=fun b hb=>(b3.block b (by omega)).trans (KEEP2 b hb)
    have BW3:Below w.heap.size w U3:=BW2.trans (b3.mono (by omega));have v3:=(b3.block w.heap.size (by omega)).trans v2;have m3:=(b3.block (w.heap.size+1) (by omega)).trans m2;have bb3:=(b3.block Bb (by omega)).trans bb2;obtain⟨q0,q1,q2,q3,q4,q5⟩:=six_box v3;refine hK.out _ _ (by exact⟨q0,q1,q2,q3,q4,q5⟩) (fun hHeld=>?_);clear hK K0;try simp only [ptH]
    refine tkH 5 rfl ?_;try simp only [ptH]
    obtain⟨BB,hBB⟩ : ∃ BB,D.heap.size=BB:=⟨_,rfl⟩;obtain⟨XX,hXX⟩ : ∃ XX,U1.heap.size=XX:=⟨_,rfl⟩;have gB:=g1_2_3;have gX:=g2_3;have oZ:=oz;rw[hBB] at gB;rw[hXX] at gX;try rw[hBB]
    try rw[hXX]
    have hbs:w.heap.size+1<BB/\w.heap.size+1<XX/\XX≠BB:=by omega
    have HBQ:Hid (∀ q,g=some ⟨q,0,none⟩->w.heap.size+1<q/\q≠BB/\q≠XX):=fun q e=>by have:=HGZ.out q e;omega
    obtain⟨k0,k1,k2,k3⟩:=XBase.four_box gB;obtain⟨f0,f1,f2,f3⟩:=Base.frz4 gB;obtain⟨Uf,hUf⟩:=stc4 U3 BB (.slice (some ⟨XX,0,none⟩) 1 1) (mkr Bb) (.slice g (zs cs).length cap) (.int .i64 4096);obtain⟨e1,e2,e3,e4⟩:=set4 gB hUf;have HL:=hid (made_gen hKw HNE.out HIN.out HWF.out HTK.out BW3 e1 e2 e3 e4 gX oZ m3 bb3 hbs.1 hbs.2.1 hbs.2.2 HBQ.out);have vf:=(e4 w.heap.size (by omega)).trans v3;obtain⟨q0,q1,q2,q3,q4,q5⟩:=six_box vf;clear e1 e2 e3 e4 gB gX oZ;refine rdH [7] ?_;refine alH rfl fun K0 hK=>?_
    go_wp2_with fail
    try rw[hUf]
    refine hK.out _ _ (by exact⟨q0,q1,q2,q3,q4,q5⟩) (fun hHeld=>?_);clear hK K0;try simp only [ptH]
    refine dnH ?_;go_wp2_with fail
    exact Met.intro (hJJ _ _ ⟨_,_,_,_,_,_,_,⟨_,rfl,HL.out⟩,rfl⟩)
   ·go_simp
    try rw[hD]
    try rw[<- HSD.out]
    refine (GSz.sizes_c mc U1 (.slice ca cs.length ccap) (.slice none 0 0) cs [] K U1.heap.size (by omega) (Nat.le_refl _) (KBase.InL.keep (w:=w) (w':=U1) (fun b hb _=>KEEP1 b hb) HCS.out) (IBase.oi_nil _ _) (by simpa using HSZ.out)).mono ?_;rintro ee U2 ⟨zv,rfl,oz,kz,-⟩;rw[List.nil_append] at oz;have b2:=kz.below;have s2:=kz.size;obtain⟨g,cap,rfl⟩:=Oi.shape oz;have HGZ:Hid (∀ q,g=some ⟨q,0,none⟩->_):=fun q e=>GSz.oi_lt oz (g:=q) (by rw[e];rfl)
    clear kz;have g1_2:=(b2.block _ (by omega)).trans g1;have KEEP2:∀ b,b<K->U2.heap[b]? = w.heap[b]?:=fun b hb=>(b2.block b (by omega)).trans (KEEP1 b hb)
    have BW2:Below w.heap.size w U2:=BW1.trans (b2.mono (by omega));have v2:=(b2.block w.heap.size (by omega)).trans v1;have m2:=(b2.block (w.heap.size+1) (by omega)).trans m1;have bb2:=(b2.block Bb (by omega)).trans bb1;obtain⟨q0,q1,q2,q3,q4,q5⟩:=six_box v2;refine hK.out _ _ (by exact⟨q0,q1,q2,q3,q4,q5⟩) (fun hHeld=>?_);clear hK K0;try simp only [ptH]
    refine rdH [1] ?_;refine alH rfl fun K0 hK=>?_
    go_simp
    try rw[hD]
    try rw[<- HSD.out]
    obtain⟨U3,hU3⟩ : ∃ U,U2.alloc (.cells #[.int .i64 c.k,.bool c.b,.int .i64 c.i,.string c.s,.slice an ln cn,.slice al ll cl] 26)=U:=⟨_,rfl⟩;try rw[hU3]
    have b3:=alB hU3;have s3:=alS hU3;have g3:=alG hU3;clear hU3;have g1_2_3:=(b3.block _ (by omega)).trans g1_2;have oz_3:=Oi.below oz b3;have KEEP3:∀ b,b<K->U3.heap[b]? = w.heap[b]?:=fun b hb=>(b3.block b (by omega)).trans (KEEP2 b hb)
    have BW3:Below w.heap.size w U3:=BW2.trans (b3.mono (by omega));have v3:=(b3.block w.heap.size (by omega)).trans v2;have m3:=(b3.block (w.heap.size+1) (by omega)).trans m2;have bb3:=(b3.block Bb (by omega)).trans bb2;obtain⟨q0,q1,q2,q3,q4,q5⟩:=six_box v3;refine hK.out _ _ (by exact⟨q0,q1,q2,q3,q4,q5⟩) (fun hHeld=>?_);clear hK K0;try simp only [ptH]
    refine tkH 5 rfl ?_;try simp only [ptH]
    obtain⟨BB,hBB⟩ : ∃ BB,D.heap.size=BB:=⟨_,rfl⟩;obtain⟨XX,hXX⟩ : ∃ XX,U2.heap.size=XX:=⟨_,rfl⟩;have gB:=g1_2_3;have gX:=g3;have oZ:=oz_3;rw[hBB] at gB;rw[hXX] at gX;try rw[hBB]
    try rw[hXX]
    have hbs:w.heap.size+1<BB/\w.heap.size+1<XX/\XX≠BB:=by omega
    have HBQ:Hid (∀ q,g=some ⟨q,0,none⟩->w.heap.size+1<q/\q≠BB/\q≠XX):=fun q e=>by have:=HGZ.out q e;omega
    obtain⟨k0,k1,k2,k3⟩:=XBase.four_box gB;obtain⟨f0,f1,f2,f3⟩:=Base.frz4 gB;obtain⟨Uf,hUf⟩:=stc4 U3 BB (.slice (some ⟨XX,0,none⟩) 1 1) (mkr Bb) (.slice g (zs cs).length cap) (.int .i64 4096);obtain⟨e1,e2,e3,e4⟩:=set4 gB hUf;have HL:=hid (made_gen hKw HNE.out HIN.out HWF.out HTK.out BW3 e1 e2 e3 e4 gX oZ m3 bb3 hbs.1 hbs.2.1 hbs.2.2 HBQ.out);have vf:=(e4 w.heap.size (by omega)).trans v3;obtain⟨q0,q1,q2,q3,q4,q5⟩:=six_box vf;clear e1 e2 e3 e4 gB gX oZ;refine rdH [7] ?_;refine alH rfl fun K0 hK=>?_
    go_wp2_with fail
    try rw[hUf]
    refine hK.out _ _ (by exact⟨q0,q1,q2,q3,q4,q5⟩) (fun hHeld=>?_);clear hK K0;try simp only [ptH]
    refine dnH ?_;go_wp2_with fail
    exact Met.intro (hJJ _ _ ⟨_,_,_,_,_,_,_,⟨_,rfl,HL.out⟩,rfl⟩)
 case rest=>
  obtain⟨BB,rfl,hE,hWm⟩:=hcut;by_cases hp:0<szL cs
  ·obtain⟨XX,g,cap,hwr,hbw,hB1,hX1,hX2,hM,hbb⟩:=hWm hp
   clear hE hWm;have hBs:=hwr.lt;have hbt:Bt wc.heap.size wc Bb (Value.slice (some ⟨XX,0,none⟩) 1 1).ownBlock (.slice none 0 0) []:=⟨hbb,by omega,Nat.le_refl _,fun g e=>(by cases e),[],⟨World.ownsRow_nil _ _ _ _,fun u hu=>(by cases hu)⟩,rfl,fun j h=>(by cases h)⟩;have cN:=HNN.out hp wc BB _ _ hwr rfl hbt (hbw.mono (by omega));have HM3:=hid hM;have HBW3:=hid hbw;clear hwr hbw hM hbb hbt;cases A with
   | error q=>
    have hq0:q≠0:=fun e=>HA0.out (by rw[e])
    go_wp2_with fail
    refine cN.mono ?_;rintro e W3 ⟨rfl,hf⟩;have hM3:=(hf.other (w.heap.size+1) (by omega) (by omega) (by omega) (fun e=>by have:w.heap.size+1=XX:=Option.some.inj e;omega) (fun e=>by cases e)).trans HM3.out;have b3:Below Bb wc W3:=hf.below Bb (by omega) (Nat.le_refl _) (fun x e=>by have:XX=x:=Option.some.inj e;omega) (fun y e=>by cases e);have HB3:=hid ((HBW3.out.mono (by omega)).trans b3);refine leaves_cons (f:=33) (args:=#[.pointer (some ⟨w.heap.size+1,0,none⟩)]) (by simp) (by simp [go_sem]) ?_;refine (catch_fault (w.heap.size+1) (q:Nat) [] W3 _ hM3).mono ?_;rintro e u' w5 ⟨rfl,rfl,hw5⟩;have m5:w5.cell? ⟨w.heap.size+1,0,none⟩=some (.int .i64 (q:Nat)):=by rw[<- hw5];have:=heap_set W3 (w.heap.size+1) 0 _ _ (.int .i64 (q:Nat)) hM3;simp [World.cell?, this]
    have HB5:Hid (Below Bb w w5):=by rw[<- hw5];exact HB3.out.setCell (by show Bb<=w.heap.size+1;omega) _
    simp [Leaves, settle, results, results18, go_sem, m5]
    exact⟨hq0,rfl,HB5.out⟩
   | ok a=>
    go_wp2_with fail
    refine cN.mono ?_;rintro e W3 ⟨hlen3,⟨v3,rfl⟩,hf,X3,tv3,-,hX3,hR3,hbt3⟩;have hM3:=(hf.other (w.heap.size+1) (by omega) (by omega) (by omega) (fun e=>by have:w.heap.size+1=XX:=Option.some.inj e;omega) (fun e=>by cases e)).trans HM3.out;have b3:Below Bb wc W3:=hf.below Bb (by omega) (Nat.le_refl _) (fun x e=>by have:XX=x:=Option.some.inj e;omega) (fun y e=>by cases e);have k3:W3.cell? ⟨w.heap.size+1,0,none⟩=some (.int .i64 0):=by simp [World.cell?, hM3]
    have kf:=Base.frozen_box hM3 0;obtain⟨W4,hW4⟩ : ∃ W4,W3.setCell ⟨w.heap.size+1,0,none⟩ (.int .i64 0)=W4:=⟨_,rfl⟩;have h4o:∀ b,b≠w.heap.size+1->W4.heap[b]? = W3.heap[b]?:=fun b hb=>by rw[<- hW4,Below.heap_setCell _ _ _ _ hb]
    have h4s:W4.heap.size=W3.heap.size:=by rw[<- hW4,World.size_setCell]
    have hs3:=hf.size;have m4:W4.cell? ⟨w.heap.size+1,0,none⟩=some (.int .i64 0):=by rw[<- hW4];have:=heap_set W3 (w.heap.size+1) 0 _ _ (.int .i64 0) hM3;simp [World.cell?, this]
    have HB4:Hid (Below Bb w W4):=by rw[<- hW4];exact ((HBW3.out.mono (by omega)).trans b3).setCell (by show Bb<=w.heap.size+1;omega) _
    have HT4:=hid (bt_keep hbt3 (by omega) (h4o Bb (by omega)) (fun b h1 h2 h3=>h4o b (by omega)));have HL3:=hid hlen3;clear hbt3 hf hR3 b3 hM3 h4o cN hlen3;go_wp2_with fail
    try rw[hW4]
    refine leaves_cons (f:=33) (args:=#[.pointer (some ⟨w.heap.size+1,0,none⟩)]) (by simp) (by simp [go_sem]) ?_;refine (catch_idle ⟨w.heap.size+1,0,none⟩ W4).mono ?_;rintro e u' w5 ⟨rfl,rfl,rfl⟩;simp [Leaves, settle, results, results18, go_sem, m4]
    exact⟨rfl,HB4.out,HL3.out,_,_,_,HT4.out⟩
  ·obtain⟨hn,rfl⟩:=HNIL.out (by omega)
   have HN:=hid hn;clear hn;obtain⟨pv,zv,hwr,hbw,hB1,hM,hbb⟩:=hE;clear hWm;have hBs:=(Array.getElem?_eq_some_iff.1 hwr).1;have hbt:Bt wc.heap.size wc Bb none (.slice none 0 0) []:=⟨hbb,by omega,Nat.le_refl _,fun g e=>(by cases e),[],⟨World.ownsRow_nil _ _ _ _,fun u hu=>(by cases hu)⟩,rfl,fun j h=>(by cases h)⟩;have cN:Calls prog 35 #[ptr BB,.slice ca cs.length ccap,.int .i64 0] wc fun e w'=>(∃ v,e=.returned v)/\w'=wc:=by
    rw[HN.out];exact nodes_nil wc
   have k3:wc.cell? ⟨w.heap.size+1,0,none⟩=some (.int .i64 0):=by simp [World.cell?, hM]
   have kf:=Base.frozen_box hM 0;obtain⟨W4,hW4⟩ : ∃ W4,wc.setCell ⟨w.heap.size+1,0,none⟩ (.int .i64 0)=W4:=⟨_,rfl⟩;have h4o:∀ b,b≠w.heap.size+1->W4.heap[b]? = wc.heap[b]?:=fun b hb=>by rw[<- hW4,Below.heap_setCell _ _ _ _ hb]
   have h4s:W4.heap.size=wc.heap.size:=by rw[<- hW4,World.size_setCell]
   have m4:W4.cell? ⟨w.heap.size+1,0,none⟩=some (.int .i64 0):=by rw[<- hW4];have:=heap_set wc (w.heap.size+1) 0 _ _ (.int .i64 0) hM;simp [World.cell?, this]
   have HB4:Hid (Below Bb w W4):=by rw[<- hW4];exact (hbw.mono (by omega)).setCell (by show Bb<=w.heap.size+1;omega) _
   have HT4:=hid (bt_keep hbt (by omega) (h4o Bb (by omega)) (fun b h1 h2 h3=>h4o b (by omega)));clear hwr hbw hM hbb hbt h4o h4s;go_wp2_with fail
   refine cN.mono ?_;rintro e W3 ⟨⟨v3,rfl⟩,rfl⟩;go_wp2_with fail
   try rw[hW4]
   refine leaves_cons (f:=33) (args:=#[.pointer (some ⟨w.heap.size+1,0,none⟩)]) (by simp) (by simp [go_sem]) ?_;refine (catch_idle ⟨w.heap.size+1,0,none⟩ W4).mono ?_;rintro e u' w5 ⟨rfl,rfl,rfl⟩;simp [Leaves, settle, results, results18, go_sem, m4]
   exact⟨rfl,HB4.out,by simp,_,_,_,HT4.out⟩
theorem through_of {K m mc Bb:Nat} {w:World} {cv v:Value} {cs:List Co} {c:C} {A:Except Nat (List T × Int)} (hKw:K<=Bb/\Bb<w.heap.size) (hcs:KBase.InL false (fun b=>b<K) w mc cv cs) (hin:Base.In false (fun b=>b<K) w (m+1) v c) (hbb:w.heap[Bb]? = some (.cells #[.slice none 0 0] 57 (0,0))) (hpos:0<szL cs) (hchk:KNd.chk cs=0) (hdep:Shallow.dep c<=4096) (hms:(Measure.ms 0 0 (Walk.pl 1 c)).2.2=0) (hwf:wf c) (htk:∀ W',Below K w W'->Digits.Tab W') (hA0:A ≠ .error 0)
  (hN:∀ W B Pv sv,Wr K m W B Bb Pv sv 4096 [c]->sv.2.1=zs cs->Bt W.heap.size W Bb Pv.ownBlock (.slice none 0 0) []->Below K w W->Calls prog 35 #[ptr B,cv,.int .i64 0] W fun e w'=>KR (Rs K m B Bb sv [c]) W.heap.size B Bb Pv.ownBlock W A e w') :
  Calls prog 18 #[cv,v,mkr Bb] w fun e w'=>TR Bb w (bnd A fun a=>.ok a.1) e w':=
 through_gen hKw hcs hin hbb (fun h=>absurd h (by omega)) hchk hdep hms hwf htk hA0 fun _=>hN
theorem through_nil {K m mc Bb:Nat} {w:World} {cv v:Value} {cs:List Co} {c:C} (hKw:K<=Bb/\Bb<w.heap.size) (hcs:KBase.InL false (fun b=>b<K) w mc cv cs) (hin:Base.In false (fun b=>b<K) w (m+1) v c) (hbb:w.heap[Bb]? = some (.cells #[.slice none 0 0] 57 (0,0))) (hnil:cs=[]) (hchk:KNd.chk cs=0) (hdep:Shallow.dep c<=4096) (hms:(Measure.ms 0 0 (Walk.pl 1 c)).2.2=0) (hwf:wf c) (htk:∀ W',Below K w W'->Digits.Tab W') :
  Calls prog 18 #[cv,v,mkr Bb] w fun e w'=>TR Bb w (.ok []) e w':=by
 have h0:szL cs=0:=by rw[hnil,KVp.szL_nil]
 exact through_gen (A:=.ok ([],4096)) hKw hcs hin hbb (fun _=>⟨hnil,rfl⟩) hchk hdep hms hwf htk (fun h=>by cases h) fun h=>absurd h (by omega)
end Go.Proofs.YtdolgmmldncfkaaGreatDoor.GTh

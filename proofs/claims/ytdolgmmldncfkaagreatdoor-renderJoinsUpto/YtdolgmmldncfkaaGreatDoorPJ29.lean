import Derived.Deep.RegionHeld3
import Derived.Test.YtdolgmmldncfkaaGreatDoorPJ04
import Derived.Test.YtdolgmmldncfkaaGreatDoorPJ28
open Go.Proofs.Tryz
set_option linter.unusedVariables false
set_option maxRecDepth 20000
set_option maxHeartbeats 6400000
namespace Go.Proofs.YtdolgmmldncfkaaGreatDoor.KNd
open Tak
open Go.RowKit Base KBase KSh KAr KEx KLe KNp
open XBase (frozen_box)
structure Kr (R:Nat) (w w':World):Prop where
 below:Below R w w'
 other:∀ k,k≠R->k<w.heap.size->w'.heap[k]? = w.heap[k]?
theorem Kr.drew (R:Nat) (w:World):Kr R w w.drew:=⟨(Below.refl _ _).drew,fun _ _ _=>rfl⟩
theorem Kr.trans {R:Nat} {A D E:World} (h:Kr R A D) (k:Kr R D E):Kr R A E:=⟨h.below.trans k.below,fun b hb hl=>(k.other b hb (Nat.lt_of_lt_of_le hl h.below.size)).trans (h.other b hb hl)⟩
theorem Kr.of_below {R:Nat} {A D:World} (h:Below A.heap.size A D) (hR:R<A.heap.size):Kr R A D:=⟨h.mono (Nat.le_of_lt hR),fun b _ hl=>h.block b hl⟩
theorem Kr.set (R:Nat) (A:World) (v:Value):Kr R A (A.setCell ⟨R,0,none⟩ v):=⟨(Below.refl _ A).setCell (p:=⟨R,0,none⟩) (Nat.le_refl _) v,fun b hb _=>Below.heap_setCell _ _ _ _ hb⟩
theorem Kr.keep {R:Nat} {A D:World} (h:Kr R A D):Keep (fun b=>b≠R) A D:=fun b hb hl=>h.other b hb hl
def As (W:World) (R:Nat) (r:Int):Prop:=W.heap[R]? = some (.cells #[.int .i64 r] 106 (0,0))
theorem box_one {w:World} {B:Nat} {v:Value} {t:TypeId} (h:w.heap[B]? = some (.cells #[v] t (0,0))):w.cell? ⟨B,0,none⟩=some v:=by simp [World.cell?, h]
theorem own_zero {c:Co} {r s e l:Int} (h:own c r s e l=0) : ¬ r<0/\deep (ent c s e l).1.1 (ent c s e l).1.2.1 (ent c s e l).1.2.2=false/\(ent c s e l).2=true/\(xsC c).all rsv=true/\plc c s (ent c s e l).1.1=true:=by
 unfold own at h;split at h
 ·cases h
 split at h
 ·cases h
 split at h
 ·cases h
 split at h
 ·cases h
 split at h
 ·cases h
 next h1 h2 h3 h4 h5=>exact⟨h1,by simpa using h2,by simpa using h3,by simpa using h4,by simpa using h5⟩
theorem lft_le (c:Co) (r:Int):lft c r<=r:=by
 unfold lft;have:=(KPi.bq_le _ (xsC c) (r - (1+c.f.length+c.p.length+c.x.length)) (Nat.le_refl _)).1;omega
theorem ndL_room:∀ (n:Nat) (cs:List Co) (r s e l:Int),SizeOf.sizeOf cs<=n->(ndL cs r s e l).2=0->0<=r->0<=(ndL cs r s e l).1/\(ndL cs r s e l).1<=r:=by
 intro n;induction n with
 | zero=>
  intro cs r s e l h _ hr;cases cs with
  | nil=>rw[ndL_nil];exact⟨hr,Int.le_refl _⟩
  | cons c t=>exact absurd h (by simp)
 | succ n ih=>
  intro cs r s e l h h0 hr;cases cs with
  | nil=>rw[ndL_nil];exact⟨hr,Int.le_refl _⟩
  | cons c t=>
   have hone:(ndL [c] r s e l).2=0->0<=(ndL [c] r s e l).1/\(ndL [c] r s e l).1<=r:=by
    intro h1;have hle:=lft_le c r;rw[ndL_one] at h1 ⊢;split at h1
    ·next hx=>exact absurd h1 hx
    ·next hx=>
     rw[if_neg hx];have hz:=own_zero (Decidable.not_not.1 hx);split at h1
     ·next hy=>exact absurd h1 hy
     ·next hy=>
      rw[if_neg hy];obtain⟨k,tg,f,p,x,l',u⟩:=c;have i1:=ih l' (lft (.mk k tg f p x l' u) r) (ent (.mk k tg f p x l' u) s e l).1.1 (ent (.mk k tg f p x l' u) s e l).1.2.1 (ent (.mk k tg f p x l' u) s e l).1.2.2 (by simp at h;omega) (Decidable.not_not.1 hy) (by omega);have i2:=ih u _ (ent (.mk k tg f p x l' u) s e l).1.1 (ent (.mk k tg f p x l' u) s e l).1.2.1 (ent (.mk k tg f p x l' u) s e l).1.2.2 (by simp at h;omega) h1 i1.1;exact⟨i2.1,Int.le_trans i2.2 (Int.le_trans i1.2 hle)⟩
   rw[ndL_cons] at h0 ⊢;split at h0
   ·next hx=>exact absurd h0 hx
   ·next hx=>
    rw[if_neg hx];have i1:=hone (Decidable.not_not.1 hx);have i2:=ih t _ s e l (by simp at h;omega) h0 i1.1;exact⟨i2.1,Int.le_trans i2.2 i1.2⟩
abbrev ptr (R:Nat):Value:=.pointer (some ⟨R,0,none⟩)
def NO (m:Nat):Prop:=∀ (w:World) (v:Value) (cs:List Co) (R:Nat) (r s e l:Int),InL false (fun b=>b≠R) w m v cs->As w R r->0<=r/\r<=65536->0<=s/\s<=100000->0<=e/\e<=100000->0<=l/\l<=100000 ->
  Calls prog 52 #[ptr R,v,av s e l] w fun x w'=>x=.returned (.int .i64 (ndL cs r s e l).2)/\Kr R w w'/\As w' R (ndL cs r s e l).1
theorem deep_no {s e l:Int} (h:deep s e l=false):s<=64/\e<=63/\l<=8:=by
 unfold deep at h;simp at h
 omega
theorem fits_for {c:Co} {s e l:Int} (h:(ent c s e l).2=true) (hk:c.k=4):c.x.length=2:=by
 have e0:ent c s e l=((s+2,e,l+1),(((c.x.length:Int) == 2) && (((c.l.length:Int) == 1) && (kk c == 2))) && bare c.t c.f.length c.p.length 0 0 c.u.length):=by unfold ent;rw[if_neg (by rw[hk];omega),if_neg (by rw[hk];omega),if_neg (by rw[hk];omega),if_pos hk]
 rw[e0] at h;simp at h
 omega
theorem node_of {m:Nat} (ih:NO m) {w:World} {v:Value} {c:Co} {R:Nat} {r s e l:Int} (hin:In false (fun b=>b≠R) w (m+1) v c) (hA:As w R r) (hr:0<=r/\r<=65536) (hs:0<=s/\s<=100000) (he:0<=e/\e<=100000) (hl:0<=l/\l<=100000) :
  Calls prog 71 #[ptr R,v,av s e l] w fun x w'=>x=.returned (.int .i64 (ndL [c] r s e l).2)/\Kr R w w'/\As w' R (ndL [c] r s e l).1:=by
 have HIN:=hid hin
 have Hih:=hid ih;have hR:=(Array.getElem?_eq_some_iff.1 hA).1;have hin2:=hin
 rw[in_succ] at hin2;obtain⟨fv,pv,xv,lv,uv,rfl,-,-,hF,hP,⟨mx,hX⟩,hL,hU⟩:=hin2;have HL:=hid hL;have HU:=hid hU;have hlf:(c.f.length:Int)<=140737488351232:=by obtain⟨_,_,_,_,_,h,_⟩:=hF;omega
 have hlp:(c.p.length:Int)<=140737488351232:=by obtain⟨_,_,_,_,_,h,_⟩:=hP;omega
 have hlx:(c.x.length:Int)<=140737488351232:=by obtain⟨_,_,_,_,_,h,_⟩:=hX;omega
 have hbd:=lft_bd c (r:=r) (by omega) hlf hlp hlx;clear hF hP hX hL hU hlf hlp hlx ih hin
 obtain⟨W0,hW0⟩ : ∃ W0,(w.alloc (.cells #[.int .i64 c.k,.string c.t,fv,pv,xv,lv,uv] 42)).alloc (.cells #[.int .i64 s,.int .i64 e,.int .i64 l] 109)=W0:=⟨_,rfl⟩;have hsz:W0.heap.size=w.heap.size+2:=by rw[<- hW0];simp
 have hsD:W0.drew.heap.size=w.heap.size+2:=by simp [hsz]
 have hB0:Below w.heap.size w W0:=by
  rw[<- hW0];exact ((Below.refl _ w).alloc (Nat.le_refl _) _).alloc (by simp) _
 have HKa:=hid (Kr.of_below hB0 hR);have HCa:Hid (W0.heap[w.heap.size]? = some (.cells #[.int .i64 c.k,.string c.t,fv,pv,xv,lv,uv] 42 (0,0))):=by
  rw[<- hW0];iterate 1 rw[Below.heap_alloc _ _ _ (by simp;try omega)]
  exact heap_alloc_at _ _ _ (by simp)
 have HAa:Hid (W0.heap[w.heap.size+1]? = some (.cells #[.int .i64 s,.int .i64 e,.int .i64 l] 109 (0,0))):=by
  rw[<- hW0];exact heap_alloc_at _ _ _ (by simp)
 have HRa:=hid ((hB0.block R hR).trans hA);have HS:Hid (∀ w':World,As w' R r->w'.heap[w.heap.size]? = some (.cells #[.int .i64 c.k,.string c.t,fv,pv,xv,lv,uv] 42 (0,0))->w'.cell? ⟨R,0,none⟩=some (.int .i64 r)/\w'.cell? ⟨w.heap.size,0,none⟩=some (.int .i64 c.k)/\w'.cell? ⟨w.heap.size,1,none⟩=some (.string c.t)/\w'.cell? ⟨w.heap.size,2,none⟩=some (fv)/\w'.cell? ⟨w.heap.size,3,none⟩=some (pv)/\w'.cell? ⟨w.heap.size,4,none⟩=some (xv)/\w'.cell? ⟨w.heap.size,5,none⟩=some (lv)/\w'.cell? ⟨w.heap.size,6,none⟩=some (uv)):=by
  intro w' hA hC;obtain⟨q0,q1,q2,q3,q4,q5,q6⟩:=seven_box hC;exact⟨box_one hA,q0,q1,q2,q3,q4,q5,q6⟩
 have HS2:Hid (∀ w':World,w'.heap[w.heap.size]? = some (.cells #[.int .i64 c.k,.string c.t,fv,pv,xv,lv,uv] 42 (0,0))->w'.cell? ⟨w.heap.size,0,none⟩=some (.int .i64 c.k)/\w'.cell? ⟨w.heap.size,1,none⟩=some (.string c.t)/\w'.cell? ⟨w.heap.size,2,none⟩=some (fv)/\w'.cell? ⟨w.heap.size,3,none⟩=some (pv)/\w'.cell? ⟨w.heap.size,4,none⟩=some (xv)/\w'.cell? ⟨w.heap.size,5,none⟩=some (lv)/\w'.cell? ⟨w.heap.size,6,none⟩=some (uv)):=fun w' hC=>seven_box hC
 have HSa:=hid (HS.out W0 HRa.out HCa.out);obtain⟨a0_,a1_,a2_,a3_,a4_,a5_,a6_,a7_⟩:=HSa.out;have cL:=fun W (hK:Kr R w W)=>left_c (w:=W) ((HIN.out.keep hK.keep).weak (S':=fun _=>True) (fun _ _=>trivial) false (fun h=>h) _ (Nat.le_refl _)) (r:=r) (by omega)
 obtain⟨r1,hr1⟩ : ∃ r1,lft c r=r1:=⟨_,rfl⟩;rw[hr1] at cL hbd;obtain⟨X,hX⟩ : ∃ X,ndL [c] r s e l=X:=⟨_,rfl⟩;rw[hX];have HX:Hid ((if own c r1 s e l≠0 then (r1,own c r1 s e l) else if (ndL c.l r1 (ent c s e l).1.1 (ent c s e l).1.2.1 (ent c s e l).1.2.2).2≠0 then ndL c.l r1 (ent c s e l).1.1 (ent c s e l).1.2.1 (ent c s e l).1.2.2 else ndL c.u (ndL c.l r1 (ent c s e l).1.1 (ent c s e l).1.2.1 (ent c s e l).1.2.2).1 (ent c s e l).1.1 (ent c s e l).1.2.1 (ent c s e l).1.2.2)=X):=by
  show _=_;rw[<- hX,ndL_one,hr1]
 clear hX hr1 hA hB0;go_enter func71,ntmps71;go_wp2_with fail
 try rw[hW0]
 refine wp_region_held_drew (S:=(fun w'=>w'.cell? ⟨w.heap.size,0,none⟩=some (.int .i64 c.k)/\w'.cell? ⟨w.heap.size,1,none⟩=some (.string c.t)/\w'.cell? ⟨w.heap.size,2,none⟩=some (fv)/\w'.cell? ⟨w.heap.size,3,none⟩=some (pv)/\w'.cell? ⟨w.heap.size,4,none⟩=some (xv)/\w'.cell? ⟨w.heap.size,5,none⟩=some (lv)/\w'.cell? ⟨w.heap.size,6,none⟩=some (uv))) (by kernel_rfl) (by exact HSa.out.2) (fun hHeld=>?_);refine wpAnyH_take (i:=0) (v:=?_) rfl (by kernel_rfl) (by kernel_rfl) (by kernel_rfl) (fun _ _ _ h=>h) (Or.inl ⟨by rfl,?_⟩) (by assumption) ?_;rotate_left 1
 ·intro w hSw;(try dsimp only at hSw);go_simp;first | done | with_reducible rfl | (rw[if_neg (by omega)])
 try simp only [Act.put, zA, zB, zD, zE, zF]
 refine tkH 1 rfl ?_;try simp only [ptH]
 refine tkH 2 rfl ?_;try simp only [ptH]
 refine tkH 3 rfl ?_;try simp only [ptH]
 refine tkH 5 rfl ?_;try simp only [ptH]
 refine rdH [4] ?_;refine AllReadyH.cons rfl (fun K hK=>?_) AllReadyH.nil;go_simp
 go_wp2_with fail
 refine hK.out _ _ (by exact HSa.out.2) (fun hHeld=>?_);clear hK K;try simp only [ptH]
 refine rdH [6] ?_;refine AllReadyH.cons rfl (fun K hK=>?_) AllReadyH.nil;go_simp
 refine (cL _ (HKa.out.trans (Kr.drew R W0))).mono ?_;rintro x W1 ⟨rfl,b1⟩;have hs1:=b1.size;rw[hsD] at hs1;have b1':Below W0.heap.size W0 W1:=((Below.refl _ W0).drew).trans b1;have HKb:=hid (HKa.out.trans (Kr.of_below b1' (by omega)));have HCb:=hid ((b1'.block _ (by omega)).trans HCa.out);have HAb:=hid ((b1'.block _ (by omega)).trans HAa.out);have HRb:=hid ((b1'.block _ (by omega)).trans HRa.out);have HSb:=hid (HS.out W1 HRb.out HCb.out);clear b1 b1';go_wp2_with fail
 refine hK.out _ _ (by exact HSb.out.2) (fun hHeld=>?_);clear hK K;try simp only [ptH]
 refine tkH 7 rfl ?_;try simp only [ptH]
 refine tkH 8 rfl ?_;try simp only [ptH]
 have rc:=box_one HRb.out;have rf:=XBase.frozen_box HRb.out 0;obtain⟨W2,hW2⟩ : ∃ W2,W1.setCell ⟨R,0,none⟩ (.int .i64 r1)=W2:=⟨_,rfl⟩;have HRc:Hid (As W2 R r1):=by rw[<- hW2];exact heap_setCell_same _ _ _ _ _ _ HRb.out
 have HKc:Hid (Kr R w W2):=by rw[<- hW2];exact HKb.out.trans (Kr.set R W1 _)
 have HCc:Hid (W2.heap[w.heap.size]? = some (.cells #[.int .i64 c.k,.string c.t,fv,pv,xv,lv,uv] 42 (0,0))):=by rw[<- hW2];exact (Below.heap_setCell _ _ _ _ (show w.heap.size≠R by omega)).trans HCb.out
 have HAc:Hid (W2.heap[w.heap.size+1]? = some (.cells #[.int .i64 s,.int .i64 e,.int .i64 l] 109 (0,0))):=by rw[<- hW2];exact (Below.heap_setCell _ _ _ _ (show w.heap.size+1≠R by omega)).trans HAb.out
 have hs2:W2.heap.size=W1.heap.size:=by rw[<- hW2];simp [World.setCell]
 refine rdH [9] ?_;refine AllReadyH.cons rfl (fun K hK=>?_) AllReadyH.nil;go_simp
 go_wp2_with fail
 try rw[hW2]
 refine hK.out _ _ (by exact (HS2.out W2 HCc.out)) (fun hHeld=>?_);clear hK K;try simp only [ptH]
 refine dnH ?_;clear hHeld a0_ a1_ a2_ a3_ a4_ a5_ a6_ a7_ hW0 HS HS2 HSa HSb HKa HCa HAa HRa HKb HCb HAb HRb cL rc rf;have rc2:=box_one HRc.out;obtain⟨z0,z1,z2,z3,z4,z5,z6⟩:=seven_box HCc.out;obtain⟨y0,y1,y2⟩:=three_box HAc.out;have hsz2:w.heap.size+2<=W2.heap.size:=by omega
 clear hW2 hs1 hs2 hsz hsD;by_cases hneg:r1<0
 ·have d0:decide (r1<0)=true:=decide_eq_true hneg
  have hx:X=(r1,1504):=by
   have e1:own c r1 s e l=1504:=by unfold own;rw[if_pos hneg]
   rw[<- HX.out,e1,if_pos (by decide)]
  subst hx;go_wp2_with fail
  go_ret
  exact⟨rfl,HKc.out,HRc.out⟩
 ·have d0:decide (r1<0)=false:=decide_eq_false hneg
  have hr1p:0<=r1:=by omega
  clear hneg;have cE:=enter_c (w:=W2) ((HIN.out.keep HKc.out.keep).weak (S':=fun _=>True) (fun _ _=>trivial) false (fun h=>h) _ (Nat.le_refl _)) hs he hl;have hbe:=ent_bd c hs he hl;obtain⟨E,hE⟩ : ∃ E,ent c s e l=E:=⟨_,rfl⟩;have HE:=hid hE;rw[hE] at cE hbe;clear hE;obtain⟨⟨s',e',l'⟩,fits⟩:=E;dsimp only at cE hbe
  go_wp2_with fail
  refine cE.mono ?_;rintro x W3 ⟨rfl,b3⟩;have hs3:=b3.size;obtain⟨W4,hW4⟩ : ∃ W4,W3.alloc (.cells #[.int .i64 s',.int .i64 e',.int .i64 l'] 109)=W4:=⟨_,rfl⟩;have b4:=alB hW4;have hs4:W4.heap.size=W3.heap.size+1:=by rw[<- hW4];simp
  have HD4:=hid (alG hW4);have b34:=nx b3 b4;have HC4:=hid ((b34.block _ (by omega)).trans HCc.out);have HA4:=hid ((b34.block _ (by omega)).trans HAc.out);have HR4:=hid ((b34.block _ (by omega)).trans HRc.out);have HK4:=hid (HKc.out.trans (Kr.of_below b34 (by omega)));obtain⟨u0,u1,u2⟩:=three_box HD4.out;have cD:=deep_c s' e' l' W4;clear cE b3 b4 b34 z0 z1 z2 z3 z4 z5 z6 y0 y1 y2 rc2;go_wp2_with fail
  try rw[hW4]
  refine cD.mono ?_;rintro x W5 ⟨rfl,b5⟩;have hs5:=b5.size;have HC5:=hid ((b5.block _ (by omega)).trans HC4.out);have HA5:=hid ((b5.block _ (by omega)).trans HA4.out);have HD5:=hid ((b5.block _ (by omega)).trans HD4.out);have HR5:=hid ((b5.block _ (by omega)).trans HR4.out);have HK5:=hid (HK4.out.trans (Kr.of_below b5 (by omega)));clear cD b5 hW4 u0 u1 u2;cases hdp:deep s' e' l' with
  | true=>
   have hx:X=(r1,1503):=by
    have e1:own c r1 s e l=1503:=by unfold own;rw[if_neg (show ¬ r1<0 by omega),HE.out,if_pos hdp]
    rw[<- HX.out,e1,if_pos (by decide)]
   subst hx;go_wp2_with fail
   go_ret
   exact⟨rfl,HK5.out,HR5.out⟩
  | false=>
   cases fits with
   | false=>
    have hx:X=(r1,1500):=by
     have e1:own c r1 s e l=1500:=by unfold own;rw[if_neg (show ¬ r1<0 by omega),HE.out,if_neg (by rw[hdp];decide),if_pos rfl]
     rw[<- HX.out,e1,if_pos (by decide)]
    subst hx;go_wp2_with fail
    go_ret
    exact⟨rfl,HK5.out,HR5.out⟩
   | true=>
    have cR:=KRs.resolved_all (w:=W5) ((HIN.out.keep HK5.out.keep).weak (S':=fun _=>True) (fun _ _=>trivial) false (fun h=>h) _ (Nat.le_refl _));obtain⟨q0,q1,q2,q3,q4,q5,q6⟩:=seven_box HC5.out;obtain⟨Y,hY⟩ : ∃ Y,(xsC c).all rsv=Y:=⟨_,rfl⟩;rw[hY] at cR;go_wp2_with fail
    refine cR.mono ?_;rintro x W6 ⟨rfl,b6⟩;have hs6:=b6.size;have HC6:=hid ((b6.block _ (by omega)).trans HC5.out);have HA6:=hid ((b6.block _ (by omega)).trans HA5.out);have HD6:=hid ((b6.block _ (by omega)).trans HD5.out);have HR6:=hid ((b6.block _ (by omega)).trans HR5.out);have HK6:=hid (HK5.out.trans (Kr.of_below b6 (by omega)));clear cR b6 q0 q1 q2 q3 q4 q5 q6;cases Y with
    | false=>
     have hx:X=(r1,1501):=by
      have e1:own c r1 s e l=1501:=by unfold own;rw[if_neg (show ¬ r1<0 by omega),HE.out,if_neg (by rw[hdp];decide),if_neg (by simp),if_pos hY]
      rw[<- HX.out,e1,if_pos (by decide)]
     subst hx;go_wp2_with fail
     go_ret
     exact⟨rfl,HK6.out,HR6.out⟩
    | true=>
     have cP:=placed_c (w:=W6) ((HIN.out.keep HK6.out.keep).weak (S':=fun _=>True) (fun _ _=>trivial) false (fun h=>h) _ (Nat.le_refl _)) (so:=s) (eo:=e) (lo:=l) (si:=s') (ei:=e') (li:=l') ⟨hs.1,by omega⟩ ⟨hbe.1,deep_top hdp⟩ (fits_for (s:=s) (e:=e) (l:=l) (by rw[HE.out]));obtain⟨q0,q1,q2,q3,q4,q5,q6⟩:=seven_box HC6.out;obtain⟨p0,p1,p2⟩:=three_box HA6.out;obtain⟨o0,o1,o2⟩:=three_box HD6.out;obtain⟨Z,hZ⟩ : ∃ Z,plc c s s'=Z:=⟨_,rfl⟩;rw[hZ] at cP;go_wp2_with fail
     refine cP.mono ?_;rintro x W7 ⟨rfl,b7⟩;have hs7:=b7.size;have HC7:=hid ((b7.block _ (by omega)).trans HC6.out);have HD7:=hid ((b7.block _ (by omega)).trans HD6.out);have HR7:=hid ((b7.block _ (by omega)).trans HR6.out);have HK7:=hid (HK6.out.trans (Kr.of_below b7 (by omega)));clear cP b7 q0 q1 q2 q3 q4 q5 q6 p0 p1 p2 o0 o1 o2;cases Z with
     | false=>
      have hx:X=(r1,1502):=by
       have e1:own c r1 s e l=1502:=by unfold own;rw[if_neg (show ¬ r1<0 by omega),HE.out,if_neg (by rw[hdp];decide),if_neg (by simp),if_neg (by rw[hY];decide),if_pos hZ]
       rw[<- HX.out,e1,if_pos (by decide)]
      subst hx;go_wp2_with fail
      go_ret
      exact⟨rfl,HK7.out,HR7.out⟩
     | true=>
      have e1:own c r1 s e l=0:=by unfold own;rw[if_neg (show ¬ r1<0 by omega),HE.out,if_neg (by rw[hdp];decide),if_neg (by simp),if_neg (by rw[hY];decide),if_neg (by rw[hZ];decide)]
      have hXX:=HX.out;rw[e1,if_neg (by decide),HE.out] at hXX;have hdn:=deep_no hdp;have cN:=Hih.out W7 lv c.l R r1 s' e' l' (InL.keep HK7.out.keep HL.out) HR7.out (by omega) (by omega) (by omega) (by omega);obtain⟨q0,q1,q2,q3,q4,q5,q6⟩:=seven_box HC7.out;obtain⟨o0,o1,o2⟩:=three_box HD7.out;have hroom:=ndL_room _ c.l r1 s' e' l' (Nat.le_refl _);dsimp only at hXX
      obtain⟨N,hN⟩ : ∃ N,ndL c.l r1 s' e' l'=N:=⟨_,rfl⟩;rw[hN] at cN hXX hroom;have HXX:=hid hXX;clear hXX hN e1 hY hZ;obtain⟨r2,n2⟩:=N;dsimp only at cN hroom
      go_wp2_with fail
      refine cN.mono ?_;rintro x W8 ⟨rfl,k8,HR8⟩;have HR8:=hid HR8;have HK8:=hid (HK7.out.trans k8);have HC8:=hid ((k8.other w.heap.size (by omega) (by omega)).trans HC7.out);have HD8:=hid ((k8.other W3.heap.size (by omega) (by omega)).trans HD7.out);clear k8 cN q0 q1 q2 q3 q4 q5 q6 o0 o1 o2;by_cases hn:n2=0
      ·subst hn
       have hrm:=hroom rfl (by omega);have hx:ndL c.u r2 s' e' l'=X:=by
        have:=HXX.out;rw[if_neg (by decide)] at this;exact this
       have cU:=Hih.out W8 uv c.u R r2 s' e' l' (InL.keep HK8.out.keep HU.out) HR8.out (by omega) (by omega) (by omega) (by omega);rw[hx] at cU;obtain⟨q0,q1,q2,q3,q4,q5,q6⟩:=seven_box HC8.out;obtain⟨o0,o1,o2⟩:=three_box HD8.out;clear hx hroom hrm;go_wp2_with fail
       refine cU.mono ?_;rintro x W9 ⟨rfl,k9,h9⟩;have HK9:=hid (HK8.out.trans k9);have HR9:=hid h9;clear k9 h9;go_wp2_with fail
       go_ret
       exact⟨rfl,HK9.out,HR9.out⟩
      ·have hne:(n2 != 0)=true:=by simpa using hn
       have hx:(r2,n2)=X:=by
        have:=HXX.out;rw[if_pos hn] at this;exact this
       subst hx;clear hroom;go_wp2_with fail
       go_ret
       exact⟨rfl,HK8.out,HR8.out⟩
def ND (m:Nat):Prop:=∀ (w:World) (v:Value) (c:Co) (R:Nat) (r s e l:Int),KBase.In false (fun b=>b≠R) w m v c->As w R r->0<=r/\r<=65536->0<=s/\s<=100000->0<=e/\e<=100000->0<=l/\l<=100000 ->
  Calls prog 71 #[ptr R,v,av s e l] w fun x w'=>x=.returned (.int .i64 (ndL [c] r s e l).2)/\Kr R w w'/\As w' R (ndL [c] r s e l).1
theorem nodes_of {m:Nat} (ih:ND m):NO m:=by
 intro w v cs R r s e l hin hA hr hs he hl;have hR:=(Array.getElem?_eq_some_iff.1 hA).1;have Hih:=hid ih;obtain⟨a,cap,rfl,hlc,hcm,hlen,hnil,hL⟩:=hin
 have HL:=hid hL;obtain⟨W0,hW0⟩ : ∃ W0,w.alloc (.cells #[.int .i64 s,.int .i64 e,.int .i64 l] 109)=W0:=⟨_,rfl⟩;have b0:=alB hW0;have HA0:=hid (alG hW0);have HK0:=hid (Kr.of_below b0 hR);have HR0:=hid ((b0.block R hR).trans hA);have hs0:W0.heap.size=w.heap.size+1:=by rw[<- hW0];simp
 obtain⟨X,hX⟩ : ∃ X,ndL cs r s e l=X:=⟨_,rfl⟩;rw[hX];have HX:=hid hX;clear hL ih hX hA b0;go_enter func52,ntmps52;go_wp2_with fail
 try rw[hW0]
 clear hW0;go_loopw [12] (fun i wr=>∃ (q:Nat) (r':Int),i=.int .i64 q/\q<=cs.length/\0<=r'/\r'<=65536/\Kr R w wr/\As wr R r'/\(w.heap.size<wr.heap.size/\wr.heap[w.heap.size]? = some (.cells #[.int .i64 s,.int .i64 e,.int .i64 l] 109 (0,0)))/\ndL (cs.drop q) r' s e l=X) (fun i _=>cs.length - (intOf i).toNat)
 case atStart=>exact⟨0,r,rfl,by omega,by omega,by omega,HK0.out,HR0.out,⟨by omega,HA0.out⟩,HX.out⟩
 case round=>
  clear HK0 HR0 HA0 HX hs0;obtain⟨q,r',rfl,hq,hr1,hr2,hK,hRr,⟨hsw,hAr⟩,hM⟩:=hrel;have HK:=hid hK;have HR:=hid hRr;have HAr:=hid hAr;have HM:=hid hM;have hsz:=hK.below.size;clear hM hRr hAr;by_cases hlt:q<cs.length
  ·have d0:decide ((q:Int)<(cs.length:Int))=true:=by simp;omega
   obtain⟨g,o,u,ha,hSg,hu,hi⟩:=HL.out.elem hlt;subst ha;have hu:=Keep.co hK.keep hSg hu;have hi2:=hi.keep hK.keep;obtain⟨v0,v1,v2,v3,v4,v5,v6,rfl,k0,k1,k2,k3,k4,k5,k6⟩:=hu;obtain⟨m',fv,pv,xv,lv,uv,-,hv,-,-,hF,hP,⟨mx,hX⟩,hLl,hUl⟩:=hi2.shape;simp only [Value.agg.injEq, Array.mk.injEq, List.cons.injEq, and_true] at hv;obtain⟨rfl,rfl,rfl,rfl,rfl,rfl,rfl⟩:=hv;obtain⟨a1,c1,rfl,-⟩:=hF;obtain⟨a2,c2,rfl,-⟩:=hP;obtain⟨a3,c3,rfl,-⟩:=hX;obtain⟨a4,c4,rfl,-⟩:=hLl;obtain⟨a5,c5,rfl,-⟩:=hUl;obtain⟨y,hy⟩ : ∃ y,cs[q]=y:=⟨_,rfl⟩;rw[hy] at hi2 k0 k1 k2 k3 k4 k5 k6;obtain⟨W4,hW4⟩ : ∃ W4,wr.alloc (.cells #[.int .i64 y.k,.string y.t,.slice a1 y.f.length c1,.slice a2 y.p.length c2,.slice a3 y.x.length c3,.slice a4 y.l.length c4,.slice a5 y.u.length c5] 42)=W4:=⟨_,rfl⟩;have b4:=alB hW4;have q4:=alG hW4;have hs4:W4.heap.size=wr.heap.size+1:=by rw[<- hW4];simp
   obtain⟨z0,z1,z2,z3,z4,z5,z6⟩:=seven_box q4;have HA4:=hid ((b4.block _ hsw).trans HAr.out);obtain⟨y0,y1,y2⟩:=three_box HA4.out;have HK4:=hid (HK.out.trans (Kr.of_below b4 (by omega)));have HR4:=hid ((b4.block _ (by omega)).trans HR.out);have cN:=Hih.out W4 _ y R r' s e l (hi2.below b4) HR4.out ⟨hr1,hr2⟩ hs he hl;have hdrop:cs.drop q=y :: cs.drop (q+1):=by rw[<- hy];exact List.drop_eq_getElem_cons hlt
   have hstep:=HM.out;rw[hdrop,ndL_cons] at hstep;have hroom:=ndL_room _ [y] r' s e l (Nat.le_refl _);obtain⟨N,hN⟩ : ∃ N,ndL [y] r' s e l=N:=⟨_,rfl⟩;rw[hN] at cN hstep hroom;have HST:=hid hstep;have hcapq:cs.length<=cap:=hlc;obtain⟨r2,n2⟩:=N;dsimp only at cN hroom
   clear hstep hdrop hN hi hi2 q4 b4 HM hy hK;go_wp2_with fail
   try rw[hW4]
   refine cN.mono ?_;rintro x W5 ⟨rfl,k5',h5'⟩;have HR5:=hid h5';have HK5:=hid (HK4.out.trans k5');have HA5:=hid ((k5'.other w.heap.size (by omega) (by omega)).trans HA4.out);have hs5:=k5'.below.size;clear cN k5' h5' hW4 k0 k1 k2 k3 k4 k5 k6 z0 z1 z2 z3 z4 z5 z6 y0 y1 y2;by_cases hn:n2=0
   ·subst hn
    have hrm:=hroom rfl hr1;have HST2:Hid (ndL (cs.drop (q+1)) r2 s e l=X):=by
     have:=HST.out;rw[if_neg (by simp)] at this;exact this
    clear HST hroom;go_wp2_with fail
    go_roundw
    case rel=>exact⟨q+1,r2,by go_num,by omega,by omega,by omega,HK5.out,HR5.out,⟨by omega,HA5.out⟩,HST2.out⟩
    case measure=>simp only [intOf];omega
   ·have hne:(n2 != 0)=true:=by simpa using hn
    have hx:(r2,n2)=X:=by
     have:=HST.out;rw[if_pos hn] at this;exact this
    subst hx;clear hroom HST;go_wp2_with fail
    go_ret
    exact⟨rfl,HK5.out,HR5.out⟩
  ·have d0:decide ((q:Int)<(cs.length:Int))=false:=by simp;omega
   have hx:X=(r',0):=by
    have:=HM.out;rw[List.drop_eq_nil_of_le (by omega),ndL_nil] at this;exact this.symm
   subst hx;go_wp2_with fail
   go_ret
   exact⟨rfl,HK.out,HR.out⟩
theorem nodes_all:∀ m,NO m
 | 0=>nodes_of (fun w v c R r s e l h=>(in_zero h).elim)
 | m+1=>nodes_of (fun w v c R r s e l h hA hr hs he hl=>node_of (nodes_all m) h hA hr hs he hl)
def chk (cs:List Co):Int:=(ndL cs 4096 1 0 0).2
theorem check_c {m:Nat} {w:World} {v:Value} {cs:List Co} (hin:InL false (fun _=>True) w m v cs) :
  Calls prog 31 #[v] w fun x w'=>x=.returned (.int .i64 (chk cs))/\Below w.heap.size w w':=by
 obtain⟨W0,hW0⟩ : ∃ W0,w.alloc (.cells #[.int .i64 4096] 106)=W0:=⟨_,rfl⟩;have b0:=alB hW0;have hA:As W0 w.heap.size 4096:=by rw[<- hW0];exact heap_alloc_new w _
 have hin2:InL false (fun b=>b≠w.heap.size) W0 m v cs:=hin.other b0;have cN:=nodes_all m W0 v cs w.heap.size 4096 1 0 0 hin2 hA (by omega) (by omega) (by omega) (by omega);obtain⟨X,hX⟩ : ∃ X,(ndL cs 4096 1 0 0).2=X:=⟨_,rfl⟩;have e0:chk cs=X:=hX;rw[hX] at cN;rw[e0];have HB:=hid b0;clear b0 hA hin2 hX e0;go_enter func31,ntmps31;go_wp2_with fail
 try rw[hW0]
 refine cN.mono ?_;rintro x W1 ⟨rfl,k1,-⟩;have HB1:=hid (HB.out.trans k1.below);clear k1 cN;go_wp2_with fail
 go_ret
 exact⟨rfl,HB1.out⟩
end Go.Proofs.YtdolgmmldncfkaaGreatDoor.KNd
namespace Go.Proofs.YtdolgmmldncfkaaGreatDoor.KVp
open Go.RowKit KBase KEx KLe KNp KNd
def szL:List Co->Nat
 | []=>0
 | .mk k t f p x l u :: cs=>1+szL l+szL u+szL cs
theorem szL_nil:szL []=0:=by rw[szL]
theorem szL_cons (c:Co) (t:List Co):szL (c :: t)=1+szL c.l+szL c.u+szL t:=by
 obtain⟨k,tg,f,p,x,l,u⟩:=c;rw[szL];rfl
def lbL:Int->List Co->Bool
 | _,[]=>true
 | lo,.mk k t f p x l u :: cs=>decide ((if k=4 then lo+1 else lo)<=100) && (lbL (if k=4 then lo+1 else lo) l && (lbL (if k=4 then lo+1 else lo) u && lbL lo cs))
theorem lbL_nil (lo:Int):lbL lo []=true:=by rw[lbL]
theorem lbL_eq (lo:Int) (c:Co) (t:List Co):lbL lo (c :: t)=(decide ((if c.k=4 then lo+1 else lo)<=100) && (lbL (if c.k=4 then lo+1 else lo) c.l && (lbL (if c.k=4 then lo+1 else lo) c.u && lbL lo t))):=by
 obtain⟨k,tg,f,p,x,l,u⟩:=c;rw[lbL];rfl
theorem lbL_cons (lo:Int) (c:Co) (t:List Co):(lbL lo (c :: t)=true)=((if c.k=4 then lo+1 else lo)<=100/\lbL (if c.k=4 then lo+1 else lo) c.l=true/\lbL (if c.k=4 then lo+1 else lo) c.u=true/\lbL lo t=true):=by
 rw[lbL_eq];simp only [Bool.and_eq_true, decide_eq_true_eq]
theorem ent_loop {c:Co} {s e l:Int} (h:(ent c s e l).2=true):(ent c s e l).1.2.2=(if c.k=4 then l+1 else l):=by
 unfold ent at h ⊢;repeat' split at h
 all_goals simp_all
theorem ok_one {c:Co} {r s e l:Int} (h:(ndL [c] r s e l).2=0):own c (lft c r) s e l=0/\(ndL c.l (lft c r) (ent c s e l).1.1 (ent c s e l).1.2.1 (ent c s e l).1.2.2).2=0/\(ndL c.u (ndL c.l (lft c r) (ent c s e l).1.1 (ent c s e l).1.2.1 (ent c s e l).1.2.2).1 (ent c s e l).1.1 (ent c s e l).1.2.1 (ent c s e l).1.2.2).2=0/\ndL [c] r s e l=ndL c.u (ndL c.l (lft c r) (ent c s e l).1.1 (ent c s e l).1.2.1 (ent c s e l).1.2.2).1 (ent c s e l).1.1 (ent c s e l).1.2.1 (ent c s e l).1.2.2:=by
 rw[ndL_one] at h ⊢;split at h
 ·next hx=>exact absurd h hx
 ·next hx=>
  rw[if_neg hx];split at h
  ·next hy=>exact absurd h hy
  ·next hy=>
   rw[if_neg hy];exact⟨Decidable.not_not.1 hx,Decidable.not_not.1 hy,h,rfl⟩
theorem ok_cons {c:Co} {t:List Co} {r s e l:Int} (h:(ndL (c :: t) r s e l).2=0):(ndL [c] r s e l).2=0/\(ndL t (ndL [c] r s e l).1 s e l).2=0/\ndL (c :: t) r s e l=ndL t (ndL [c] r s e l).1 s e l:=by
 have e0:=ndL_cons c t r s e l;rw[e0] at h;split at h
 ·next hx=>exact absurd h hx
 ·next hx=>
  rw[if_neg hx] at e0;exact⟨Decidable.not_not.1 hx,h,e0⟩
theorem ok_small:∀ (n:Nat) (cs:List Co) (r s e l:Int),SizeOf.sizeOf cs<=n->(ndL cs r s e l).2=0->0<=r->lbL l cs=true/\(ndL cs r s e l).1+szL cs<=r:=by
 intro n;induction n with
 | zero=>
  intro cs r s e l h _ hr;cases cs with
  | nil=>rw[ndL_nil,lbL_nil,szL_nil];exact⟨rfl,by simp⟩
  | cons c t=>exact absurd h (by simp)
 | succ n ih=>
  intro cs r s e l h h0 hr;cases cs with
  | nil=>rw[ndL_nil,lbL_nil,szL_nil];exact⟨rfl,by simp⟩
  | cons c t=>
   obtain⟨h1,h2,h3⟩:=ok_cons h0;obtain⟨g1,g2,g3,g4⟩:=ok_one h1;obtain⟨o1,o2,o3,-,-⟩:=own_zero g1;have hd:=deep_no o2;have hl:lft c r<=r - 1:=by
    unfold lft;have:=(KPi.bq_le _ (xsC c) (r - (1+c.f.length+c.p.length+c.x.length)) (Nat.le_refl _)).1;omega
   have el:=ent_loop o3;have r1:=ndL_room _ c.l (lft c r) _ _ _ (Nat.le_refl _) g2 (by omega);have r2:=ndL_room _ c.u _ _ _ _ (Nat.le_refl _) g3 r1.1;obtain⟨k,tg,f,p,x,l',u⟩:=c;have i1:=ih l' _ _ _ _ (by simp at h;omega) g2 (by omega);have i2:=ih u _ _ _ _ (by simp at h;omega) g3 r1.1;have i3:=ih t _ _ _ _ (by simp at h;omega) h2 (by rw[g4];exact r2.1);rw[el] at hd;refine⟨?_,?_⟩
   ·rw[lbL_cons]
    rw[el] at i1 i2;exact⟨by omega,i1.1,i2.1,i3.1⟩
   ·rw[h3,szL_cons]
    have e1:(Co.mk k tg f p x l' u).l=l':=rfl;have e2:(Co.mk k tg f p x l' u).u=u:=rfl;rw[e1,e2];have j1:=i1.2;have j2:=i2.2;have j3:=i3.2;rw[g4] at j3 ⊢;rw[e1] at j2 j3 ⊢;rw[e2] at j3 ⊢;omega
end Go.Proofs.YtdolgmmldncfkaaGreatDoor.KVp

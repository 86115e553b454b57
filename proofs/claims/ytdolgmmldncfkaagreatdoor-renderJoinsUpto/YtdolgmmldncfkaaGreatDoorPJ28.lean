import Derived.Deep.RegionHeld3
import Derived.Test.YtdolgmmldncfkaaGreatDoorPJ04
import Derived.Test.YtdolgmmldncfkaaGreatDoorPJ26
import Derived.Test.YtdolgmmldncfkaaGreatDoorPJ27
open Go.Proofs.Tryz
set_option linter.unusedVariables false
set_option maxRecDepth 20000
set_option maxHeartbeats 3200000
namespace Go.Proofs.YtdolgmmldncfkaaGreatDoor.KPd
open Tak
open Go.RowKit Base EPure KBase KAr
open XBase (four_box frozen_box)
theorem placed_for {m:Nat} {v:Value} {c:Co} {w:World} (hin:In false (fun _=>True) w m v c) {so eo lo si ei li:Int} (hso:0<=so/\so<=200000) (hsi:0<=si/\si<=200000) (hk:c.k=4) {x y:Ex} (hx:c.x=[x,y]) :
  Calls prog 105 #[v,av so eo lo,av si ei li] w fun e w'=>e=.returned (.bool (KHs.hs so [x] && KHs.hs si [y]))/\Below w.heap.size w w':=by
 obtain⟨m',fv,pv,xv,lv,uv,rfl,rfl,-,-,hF,hP,⟨mx,hX⟩,hl,hu⟩:=hin.shape;obtain⟨a1,c1,rfl,-,-,-,-,-⟩:=hF;obtain⟨a2,c2,rfl,-,-,-,-,-⟩:=hP;rw[hx] at hX;obtain⟨a3,c3,rfl,hc3,hm3,hl3,-,hLX⟩:=hX;obtain⟨g,o,u0,ha,-,hu0,hi0⟩:=XBase.elem_at hLX (q:=0) (by simp);obtain⟨g',o',u1,ha',-,hu1,hi1⟩:=XBase.elem_at hLX (q:=1) (by simp);subst ha;obtain⟨rfl,rfl⟩ : g=g'/\o=o':=by cases ha';exact⟨rfl,rfl⟩
 obtain⟨e0,e1,e2,e3,rfl,k0,k1,k2,k3⟩:=hu0;obtain⟨f0,f1,f2,f3,rfl,k4,k5,k6,k7⟩:=hu1;obtain⟨-,b1,d1,-,rfl,rfl,rfl,rfl,-,-,-,-⟩:=hi0.kinds;obtain⟨-,b2,d2,-,rfl,rfl,rfl,rfl,-,-,-,-⟩:=hi1.kinds;simp only [List.getElem_cons_zero, List.getElem_cons_succ, Nat.zero_mul, Nat.one_mul, Nat.add_zero, Nat.add_assoc, Nat.reduceAdd] at k0 k1 k2 k3 k4 k5 k6 k7 hi0 hi1;have hlen:([x,y] : List Ex).length=2:=rfl;rw[hlen] at hc3;have hk4:(c.k == 4)=true:=by simpa using hk
 clear hin hl hu hk ha' hLX hl3 hlen hm3;obtain⟨W0,hW0⟩ : ∃ W0,(((w.alloc (.cells #[.int .i64 c.k,.string c.t,.slice a1 c.f.length c1,.slice a2 c.p.length c2,.slice (some ⟨g,o,none⟩) 2 c3,lv,uv] 42)).alloc (.cells #[.int .i64 so,.int .i64 eo,.int .i64 lo] 109)).alloc (.cells #[.int .i64 si,.int .i64 ei,.int .i64 li] 109)).alloc (.cells #[.bool false] 4)=W0:=⟨_,rfl⟩;have hsz:W0.heap.size=w.heap.size+4:=by rw[<- hW0];simp
 have hsD:W0.drew.heap.size=w.heap.size+4:=by simp [hsz]
 have HBa:Hid (Below w.heap.size w W0):=by
  rw[<- hW0];exact ((((Below.refl _ w).alloc (Nat.le_refl _) _).alloc (by simp) _).alloc (by simp;omega) _).alloc (by simp;omega) _
 have HCa:Hid (W0.heap[w.heap.size]? = some (.cells #[.int .i64 c.k,.string c.t,.slice a1 c.f.length c1,.slice a2 c.p.length c2,.slice (some ⟨g,o,none⟩) 2 c3,lv,uv] 42 (0,0))):=by
  rw[<- hW0];iterate 3 rw[Below.heap_alloc _ _ _ (by simp;try omega)]
  exact KLe.heap_alloc_at _ _ _ (by simp)
 have HAa:Hid (W0.heap[w.heap.size+1]? = some (.cells #[.int .i64 so,.int .i64 eo,.int .i64 lo] 109 (0,0))):=by
  rw[<- hW0];iterate 2 rw[Below.heap_alloc _ _ _ (by simp;try omega)]
  exact KLe.heap_alloc_at _ _ _ (by simp)
 have HIa:Hid (W0.heap[w.heap.size+1+1]? = some (.cells #[.int .i64 si,.int .i64 ei,.int .i64 li] 109 (0,0))):=by
  rw[<- hW0];iterate 1 rw[Below.heap_alloc _ _ _ (by simp;try omega)]
  exact KLe.heap_alloc_at _ _ _ (by simp)
 have HRa:Hid (W0.heap[w.heap.size+1+1+1]? = some (.cells #[.bool false] 4 (0,0))):=by
  rw[<- hW0];exact KLe.heap_alloc_at _ _ _ (by simp)
 have HS:Hid (∀ w',Below w.heap.size w w'->w'.heap[w.heap.size]? = some (.cells #[.int .i64 c.k,.string c.t,.slice a1 c.f.length c1,.slice a2 c.p.length c2,.slice (some ⟨g,o,none⟩) 2 c3,lv,uv] 42 (0,0))->w'.heap[w.heap.size+1]? = some (.cells #[.int .i64 so,.int .i64 eo,.int .i64 lo] 109 (0,0))->w'.heap[w.heap.size+1+1]? = some (.cells #[.int .i64 si,.int .i64 ei,.int .i64 li] 109 (0,0))->w'.cell? ⟨w.heap.size,4,none⟩=some (.slice (some ⟨g,o,none⟩) 2 c3)/\w'.cell? ⟨w.heap.size+1,0,none⟩=some (.int .i64 so)/\w'.cell? ⟨w.heap.size+1,1,none⟩=some (.int .i64 eo)/\w'.cell? ⟨w.heap.size+1,2,none⟩=some (.int .i64 lo)/\w'.cell? ⟨w.heap.size+1+1,0,none⟩=some (.int .i64 si)/\w'.cell? ⟨w.heap.size+1+1,1,none⟩=some (.int .i64 ei)/\w'.cell? ⟨w.heap.size+1+1,2,none⟩=some (.int .i64 li)/\w'.cell? ⟨g,o,none⟩=some (.int .i64 x.o)/\w'.cell? ⟨g,o+1,none⟩=some (.int .i64 x.i)/\w'.cell? ⟨g,o+2,none⟩=some (.string x.s)/\w'.cell? ⟨g,o+3,none⟩=some (.slice b1 x.l.length d1)/\w'.cell? ⟨g,o+4,none⟩=some (.int .i64 y.o)/\w'.cell? ⟨g,o+5,none⟩=some (.int .i64 y.i)/\w'.cell? ⟨g,o+6,none⟩=some (.string y.s)/\w'.cell? ⟨g,o+7,none⟩=some (.slice b2 y.l.length d2)):=by
  intro w' hB hC hA hI;obtain⟨p0,p1,p2⟩:=three_box hA;obtain⟨q0,q1,q2⟩:=three_box hI;exact⟨(seven_box hC).2.2.2.2.1,p0,p1,p2,q0,q1,q2,below_cell k0 hB,below_cell k1 hB,below_cell k2 hB,below_cell k3 hB,below_cell k4 hB,below_cell k5 hB,below_cell k6 hB,below_cell k7 hB⟩
 have HSa:=hid (HS.out W0 HBa.out HCa.out HAa.out HIa.out);obtain⟨a0_,a1_,a2_,a3_,a4_,a5_,a6_,a7_,a8_,a9_,a10_,a11_,a12_,a13_,a14_⟩:=HSa.out;have kc:=(seven_box HCa.out).1;have cA:=fun W (hB:Below w.heap.size w W)=>KHs.has_all _ W _ x so eo lo (hi0.below hB) (by omega) (by omega)
 have cI:=fun W (hB:Below w.heap.size w W)=>KHs.has_all _ W _ y si ei li (hi1.below hB) (by omega) (by omega)
 have i0:(0:Int)<((2:Nat):Int):=by omega
 have i1:(1:Int)<((2:Nat):Int):=by omega
 clear k0 k1 k2 k3 k4 k5 k6 k7;obtain⟨T,hT⟩ : ∃ T,(KHs.hs so [x] && KHs.hs si [y])=T:=⟨_,rfl⟩;rw[hT];obtain⟨Y,hY⟩ : ∃ Y,KHs.hs so [x]=Y:=⟨_,rfl⟩;obtain⟨Z,hZ⟩ : ∃ Z,KHs.hs si [y]=Z:=⟨_,rfl⟩;rw[hY] at cA hT;rw[hZ] at cI hT;clear hY hZ hi0 hi1;cases Y with
 | true=>
  have HT:Hid (T=Z):=by rw[Bool.true_and] at hT;exact hT.symm
  clear hT;go_enter func105,ntmps105;go_wp2_with fail
  try rw[hW0]
  refine wp_region_held_drew (S:=(fun w'=>w'.cell? ⟨w.heap.size,4,none⟩=some (.slice (some ⟨g,o,none⟩) 2 c3)/\w'.cell? ⟨w.heap.size+1,0,none⟩=some (.int .i64 so)/\w'.cell? ⟨w.heap.size+1,1,none⟩=some (.int .i64 eo)/\w'.cell? ⟨w.heap.size+1,2,none⟩=some (.int .i64 lo)/\w'.cell? ⟨w.heap.size+1+1,0,none⟩=some (.int .i64 si)/\w'.cell? ⟨w.heap.size+1+1,1,none⟩=some (.int .i64 ei)/\w'.cell? ⟨w.heap.size+1+1,2,none⟩=some (.int .i64 li)/\w'.cell? ⟨g,o,none⟩=some (.int .i64 x.o)/\w'.cell? ⟨g,o+1,none⟩=some (.int .i64 x.i)/\w'.cell? ⟨g,o+2,none⟩=some (.string x.s)/\w'.cell? ⟨g,o+3,none⟩=some (.slice b1 x.l.length d1)/\w'.cell? ⟨g,o+4,none⟩=some (.int .i64 y.o)/\w'.cell? ⟨g,o+5,none⟩=some (.int .i64 y.i)/\w'.cell? ⟨g,o+6,none⟩=some (.string y.s)/\w'.cell? ⟨g,o+7,none⟩=some (.slice b2 y.l.length d2))) (by kernel_rfl) (by exact HSa.out) (fun hHeld=>?_);refine wpAnyH_take (i:=0) (v:=?_) rfl (by kernel_rfl) (by kernel_rfl) (by kernel_rfl) (fun _ _ _ h=>h) (Or.inl ⟨by rfl,?_⟩) (by assumption) ?_
  rotate_left 1
  ·intro w hSw;(try dsimp only at hSw);go_simp;first | done | with_reducible rfl | (rw[if_neg (by omega)])
  try simp only [Act.put, zA, zB, zD, zE, zF]
  refine tkH 1 rfl ?_;try simp only [ptH]
  refine tkH 2 rfl ?_;try simp only [ptH]
  refine tkH 3 rfl ?_;try simp only [ptH]
  refine tkH 4 rfl ?_;try simp only [ptH]
  refine rdH [5] ?_;refine AllReadyH.cons rfl (fun K hK=>?_) AllReadyH.nil;go_simp
  refine (cA _ (show Below w.heap.size w W0.drew from HBa.out.trans (Below.refl _ W0).drew)).mono ?_;rintro e W5 ⟨rfl,b5⟩;have hs5:=b5.size;rw[hsD] at hs5;have HBb:=hid ((HBa.out.trans (Below.refl _ W0).drew).trans (b5.mono HBa.out.size));have b5':Below W0.heap.size W0 W5:=((Below.refl _ W0).drew).trans b5;have HCb:=hid ((b5'.block w.heap.size (by omega)).trans HCa.out);have HAb:=hid ((b5'.block (w.heap.size+1) (by omega)).trans HAa.out);have HIb:=hid ((b5'.block (w.heap.size+1+1) (by omega)).trans HIa.out);have HRb:=hid ((b5'.block (w.heap.size+1+1+1) (by omega)).trans HRa.out);have HSb:=hid (HS.out W5 HBb.out HCb.out HAb.out HIb.out);obtain⟨b0,b1,b2,b3,b4,b5,b6,b7,b8,b9,b10,b11,b12,b13,b14⟩:=HSb.out;clear b5 b5';go_wp2_with fail
  refine hK.out _ _ (by exact HSb.out) (fun hHeld=>?_);clear hK K;try simp only [ptH]
  refine tkH 6 rfl ?_;try simp only [ptH]
  refine tkH 7 rfl ?_;try simp only [ptH]
  refine tkH 8 rfl ?_;try simp only [ptH]
  refine tkH 9 rfl ?_;try simp only [ptH]
  refine tkH 10 rfl ?_;try simp only [ptH]
  refine tkH 11 rfl ?_;try simp only [ptH]
  refine rdH [12] ?_;refine AllReadyH.cons rfl (fun K hK=>?_) AllReadyH.nil;go_simp
  refine (cI _ HBb.out).mono ?_;rintro e W6 ⟨rfl,b6⟩;have hs6:=b6.size;have HBc:=hid (nx HBb.out b6);have HCc:=hid ((b6.block w.heap.size (by omega)).trans HCb.out);have HAc:=hid ((b6.block (w.heap.size+1) (by omega)).trans HAb.out);have HIc:=hid ((b6.block (w.heap.size+1+1) (by omega)).trans HIb.out);have HRc:=hid ((b6.block (w.heap.size+1+1+1) (by omega)).trans HRb.out);have HSc:=hid (HS.out W6 HBc.out HCc.out HAc.out HIc.out);obtain⟨c0,c1,c2,c3,c4,c5,c6,c7,c8,c9,c10,c11,c12,c13,c14⟩:=HSc.out;clear b6;go_wp2_with fail
  refine hK.out _ _ (by exact HSc.out) (fun hHeld=>?_);clear hK K;try simp only [ptH]
  refine tkH 13 rfl ?_;try simp only [ptH]
  have rc:W6.cell? ⟨w.heap.size+1+1+1,0,none⟩=some (.bool false):=by simp [World.cell?, HRc.out]
  have rf:=XBase.frozen_box HRc.out 0;obtain⟨W8,hW8⟩ : ∃ W8,W6.setCell ⟨w.heap.size+1+1+1,0,none⟩ (.bool Z)=W8:=⟨_,rfl⟩;have HR8:Hid (W8.heap[w.heap.size+1+1+1]? = some (.cells #[.bool Z] 4 (0,0))):=by rw[<- hW8];exact heap_setCell_same _ _ _ _ _ _ HRc.out
  have HBd:Hid (Below w.heap.size w W8):=by rw[<- hW8];exact HBc.out.setCell (p:=⟨w.heap.size+1+1+1,0,none⟩) (show w.heap.size<=w.heap.size+1+1+1 by omega) _
  have HCd:=hid ((show W8.heap[w.heap.size]? = W6.heap[w.heap.size]? by rw[<- hW8,Below.heap_setCell _ _ _ _ (show w.heap.size≠w.heap.size+1+1+1 by omega)]).trans HCc.out);have HAd:=hid ((show W8.heap[w.heap.size+1]? = W6.heap[w.heap.size+1]? by rw[<- hW8,Below.heap_setCell _ _ _ _ (show w.heap.size+1≠w.heap.size+1+1+1 by omega)]).trans HAc.out);have HId:=hid ((show W8.heap[w.heap.size+1+1]? = W6.heap[w.heap.size+1+1]? by rw[<- hW8,Below.heap_setCell _ _ _ _ (show w.heap.size+1+1≠w.heap.size+1+1+1 by omega)]).trans HIc.out);have HSd:=hid (HS.out W8 HBd.out HCd.out HAd.out HId.out);obtain⟨d0,d1,d2,d3,d4,d5,d6,d7,d8,d9,d10,d11,d12,d13,d14⟩:=HSd.out;refine rdH [14] ?_;refine AllReadyH.cons rfl (fun K hK=>?_) AllReadyH.nil;go_simp
  go_wp2_with fail
  try rw[hW8]
  refine hK.out _ _ (by exact HSd.out) (fun hHeld=>?_);clear hK K;try simp only [ptH]
  refine dnH ?_;skip
  go_wp2_with fail
  have r8:W8.cell? ⟨w.heap.size+1+1+1,0,none⟩=some (.bool Z):=by simp [World.cell?, HR8.out]
  refine bodyPost_ret (v:=.bool Z) (by simp [results, results105, go_sem, r8]) rfl ?_;exact⟨by rw[HT.out],HBd.out⟩
 | false=>
  have HT:Hid (T=false):=by rw[Bool.false_and] at hT;exact hT.symm
  clear hT;go_enter func105,ntmps105;go_wp2_with fail
  try rw[hW0]
  refine wp_region_held_drew (S:=(fun w'=>w'.cell? ⟨w.heap.size,4,none⟩=some (.slice (some ⟨g,o,none⟩) 2 c3)/\w'.cell? ⟨w.heap.size+1,0,none⟩=some (.int .i64 so)/\w'.cell? ⟨w.heap.size+1,1,none⟩=some (.int .i64 eo)/\w'.cell? ⟨w.heap.size+1,2,none⟩=some (.int .i64 lo)/\w'.cell? ⟨w.heap.size+1+1,0,none⟩=some (.int .i64 si)/\w'.cell? ⟨w.heap.size+1+1,1,none⟩=some (.int .i64 ei)/\w'.cell? ⟨w.heap.size+1+1,2,none⟩=some (.int .i64 li)/\w'.cell? ⟨g,o,none⟩=some (.int .i64 x.o)/\w'.cell? ⟨g,o+1,none⟩=some (.int .i64 x.i)/\w'.cell? ⟨g,o+2,none⟩=some (.string x.s)/\w'.cell? ⟨g,o+3,none⟩=some (.slice b1 x.l.length d1)/\w'.cell? ⟨g,o+4,none⟩=some (.int .i64 y.o)/\w'.cell? ⟨g,o+5,none⟩=some (.int .i64 y.i)/\w'.cell? ⟨g,o+6,none⟩=some (.string y.s)/\w'.cell? ⟨g,o+7,none⟩=some (.slice b2 y.l.length d2))) (by kernel_rfl) (by exact HSa.out) (fun hHeld=>?_);refine wpAnyH_take (i:=0) (v:=?_) rfl (by kernel_rfl) (by kernel_rfl) (by kernel_rfl) (fun _ _ _ h=>h) (Or.inl ⟨by rfl,?_⟩) (by assumption) ?_
  rotate_left 1
  ·intro w hSw;(try dsimp only at hSw);go_simp;first | done | with_reducible rfl | (rw[if_neg (by omega)])
  try simp only [Act.put, zA, zB, zD, zE, zF]
  refine tkH 1 rfl ?_;try simp only [ptH]
  refine tkH 2 rfl ?_;try simp only [ptH]
  refine tkH 3 rfl ?_;try simp only [ptH]
  refine tkH 4 rfl ?_;try simp only [ptH]
  refine rdH [5] ?_;refine AllReadyH.cons rfl (fun K hK=>?_) AllReadyH.nil;go_simp
  refine (cA _ (show Below w.heap.size w W0.drew from HBa.out.trans (Below.refl _ W0).drew)).mono ?_;rintro e W5 ⟨rfl,b5⟩;have hs5:=b5.size;rw[hsD] at hs5;have HBb:=hid ((HBa.out.trans (Below.refl _ W0).drew).trans (b5.mono HBa.out.size));have b5':Below W0.heap.size W0 W5:=((Below.refl _ W0).drew).trans b5;have HCb:=hid ((b5'.block w.heap.size (by omega)).trans HCa.out);have HAb:=hid ((b5'.block (w.heap.size+1) (by omega)).trans HAa.out);have HIb:=hid ((b5'.block (w.heap.size+1+1) (by omega)).trans HIa.out);have HRb:=hid ((b5'.block (w.heap.size+1+1+1) (by omega)).trans HRa.out);have HSb:=hid (HS.out W5 HBb.out HCb.out HAb.out HIb.out);obtain⟨b0,b1,b2,b3,b4,b5,b6,b7,b8,b9,b10,b11,b12,b13,b14⟩:=HSb.out;clear b5 b5';go_wp2_with fail
  refine hK.out _ _ (by exact HSb.out) (fun hHeld=>?_);clear hK K;try simp only [ptH]
  refine tkH 6 rfl ?_;try simp only [ptH]
  refine wpAnyH_take (i:=7) rfl (by kernel_rfl) (by kernel_rfl) (by kernel_rfl) (fun _ _ _ h=>h) (Or.inr ⟨by rfl,rfl⟩) (by assumption) ?_;try simp only [ptH]
  refine wpAnyH_take (i:=8) rfl (by kernel_rfl) (by kernel_rfl) (by kernel_rfl) (fun _ _ _ h=>h) (Or.inr ⟨by rfl,rfl⟩) (by assumption) ?_;try simp only [ptH]
  refine wpAnyH_take (i:=9) rfl (by kernel_rfl) (by kernel_rfl) (by kernel_rfl) (fun _ _ _ h=>h) (Or.inr ⟨by rfl,rfl⟩) (by assumption) ?_;try simp only [ptH]
  refine wpAnyH_take (i:=10) rfl (by kernel_rfl) (by kernel_rfl) (by kernel_rfl) (fun _ _ _ h=>h) (Or.inr ⟨by rfl,rfl⟩) (by assumption) ?_;try simp only [ptH]
  refine wpAnyH_take (i:=11) rfl (by kernel_rfl) (by kernel_rfl) (by kernel_rfl) (fun _ _ _ h=>h) (Or.inr ⟨by rfl,rfl⟩) (by assumption) ?_;try simp only [ptH]
  refine wpAnyH_take (i:=12) rfl (by kernel_rfl) (by kernel_rfl) (by kernel_rfl) (fun _ _ _ h=>h) (Or.inr ⟨by rfl,rfl⟩) (by assumption) ?_;try simp only [ptH]
  refine tkH 13 rfl ?_;try simp only [ptH]
  have rc:W5.cell? ⟨w.heap.size+1+1+1,0,none⟩=some (.bool false):=by simp [World.cell?, HRb.out]
  have rf:=XBase.frozen_box HRb.out 0;obtain⟨W8,hW8⟩ : ∃ W8,W5.setCell ⟨w.heap.size+1+1+1,0,none⟩ (.bool false)=W8:=⟨_,rfl⟩;have HR8:Hid (W8.heap[w.heap.size+1+1+1]? = some (.cells #[.bool false] 4 (0,0))):=by rw[<- hW8];exact heap_setCell_same _ _ _ _ _ _ HRb.out
  have HBd:Hid (Below w.heap.size w W8):=by rw[<- hW8];exact HBb.out.setCell (p:=⟨w.heap.size+1+1+1,0,none⟩) (show w.heap.size<=w.heap.size+1+1+1 by omega) _
  have HCd:=hid ((show W8.heap[w.heap.size]? = W5.heap[w.heap.size]? by rw[<- hW8,Below.heap_setCell _ _ _ _ (show w.heap.size≠w.heap.size+1+1+1 by omega)]).trans HCb.out);have HAd:=hid ((show W8.heap[w.heap.size+1]? = W5.heap[w.heap.size+1]? by rw[<- hW8,Below.heap_setCell _ _ _ _ (show w.heap.size+1≠w.heap.size+1+1+1 by omega)]).trans HAb.out);have HId:=hid ((show W8.heap[w.heap.size+1+1]? = W5.heap[w.heap.size+1+1]? by rw[<- hW8,Below.heap_setCell _ _ _ _ (show w.heap.size+1+1≠w.heap.size+1+1+1 by omega)]).trans HIb.out);have HSd:=hid (HS.out W8 HBd.out HCd.out HAd.out HId.out);obtain⟨d0,d1,d2,d3,d4,d5,d6,d7,d8,d9,d10,d11,d12,d13,d14⟩:=HSd.out;refine rdH [14] ?_;refine AllReadyH.cons rfl (fun K hK=>?_) AllReadyH.nil;go_simp
  go_wp2_with fail
  try rw[hW8]
  refine hK.out _ _ (by exact HSd.out) (fun hHeld=>?_);clear hK K;try simp only [ptH]
  refine dnH ?_;skip
  go_wp2_with fail
  have r8:W8.cell? ⟨w.heap.size+1+1+1,0,none⟩=some (.bool false):=by simp [World.cell?, HR8.out]
  refine bodyPost_ret (v:=.bool false) (by simp [results, results105, go_sem, r8]) rfl ?_;exact⟨by rw[HT.out],HBd.out⟩
end Go.Proofs.YtdolgmmldncfkaaGreatDoor.KPd
namespace Go.Proofs.YtdolgmmldncfkaaGreatDoor.KNp
open Go.RowKit Base EPure KBase KSh KAr KEx KLe
def kk (c:Co):Int:=match c.l with
 | []=>0
 | x :: _=>x.k
theorem kk_eq (c:Co) (h:0<c.l.length):kk c=c.l[0].k:=by
 obtain⟨k,t,f,p,x,l,u⟩:=c;cases l with
 | nil=>simp [Co.l] at h
 | cons x t=>rfl
def ent (c:Co) (s e l:Int):(Int × Int × Int) × Bool:=
 if c.k=1 then ((s,e,l),KRo.prOk c.p && bare c.t c.f.length 0 c.x.length c.l.length c.u.length)
 else if c.k=2 then ((s,e+1,l),(UBase.word c.t 45 && KFd.fl1 none c.f) && bare ⟨#[]⟩ 0 c.p.length c.x.length 0 c.u.length)
 else if c.k=3 then ((s,e,l),((c.x.length:Int) == 1) && bare c.t c.f.length c.p.length 0 0 0)
 else if c.k=4 then ((s+2,e,l+1),(((c.x.length:Int) == 2) && (((c.l.length:Int) == 1) && (kk c == 2))) && bare c.t c.f.length c.p.length 0 0 c.u.length)
 else if c.k=5 then ((s+c.x.length,e,l),bare c.t c.f.length c.p.length 0 0 c.u.length)
 else ((s,e,l),false)
theorem enter_c {m:Nat} {v:Value} {c:Co} {w:World} (hin:In false (fun _=>True) w m v c) {s e l:Int} (hs:0<=s/\s<=100000) (he:0<=e/\e<=100000) (hl:0<=l/\l<=100000) :
  Calls prog 102 #[av s e l,v] w fun x w'=>x=.returned (.tuple #[av (ent c s e l).1.1 (ent c s e l).1.2.1 (ent c s e l).1.2.2,.bool (ent c s e l).2])/\Below w.heap.size w w':=by
 obtain⟨m',fv,pv,xv,lv,uv,rfl,rfl,-,ht,hF,hP,⟨mx,hX⟩,hL,hU⟩:=hin.shape;have hF0:=hF;have hP0:=hP;have hL0:=hL;obtain⟨a1,c1,rfl,hc1,hm1,hl1,-,hLF⟩:=hF;obtain⟨a2,c2,rfl,hc2,hm2,hl2,-,hLP⟩:=hP;obtain⟨a3,c3,rfl,hc3,hm3,hl3,-,hLX⟩:=hX;obtain⟨a4,c4,rfl,hc4,hm4,hl4,-,hLL⟩:=hL;obtain⟨a5,c5,rfl,hc5,hm5,hl5,-,hLU⟩:=hU;obtain⟨k,hk⟩ : ∃ k,c.k=k:=⟨_,rfl⟩;rw[hk];by_cases h1:k=1
 ·subst h1
  have e0:ent c s e l=((s,e,l),KRo.prOk c.p && bare c.t c.f.length 0 c.x.length c.l.length c.u.length):=by unfold ent;rw[if_pos hk]
  rw[e0];exact KEn.enter_text (fun W hW=>KAk.text_c (RP.keep (Keep.of_below hW) hP0))
 by_cases h2:k=2
 ·subst h2
  have e0:ent c s e l=((s,e+1,l),(UBase.word c.t 45 && KFd.fl1 none c.f) && bare ⟨#[]⟩ 0 c.p.length c.x.length 0 c.u.length):=by unfold ent;rw[if_neg (by rw[hk];omega),if_pos hk]
  rw[e0];exact KEn.enter_element (fun W hW=>KAk.element_c (RF.keep (Keep.of_below hW) hF0) he ht)
 by_cases h3:k=3
 ·subst h3
  have e0:ent c s e l=((s,e,l),((c.x.length:Int) == 1) && bare c.t c.f.length c.p.length 0 0 0):=by unfold ent;rw[if_neg (by rw[hk];omega),if_neg (by rw[hk];omega),if_pos hk]
  rw[e0];exact KEn.enter_condition (fun W hW=>KAk.condition_c)
 by_cases h4:k=4
 ·subst h4
  have e0:ent c s e l=((s+2,e,l+1),(((c.x.length:Int) == 2) && (((c.l.length:Int) == 1) && (kk c == 2))) && bare c.t c.f.length c.p.length 0 0 c.u.length):=by unfold ent;rw[if_neg (by rw[hk];omega),if_neg (by rw[hk];omega),if_neg (by rw[hk];omega),if_pos hk]
  rw[e0];refine KEn.enter_loop (fun W hW=>KAk.loop_c (kk:=kk c) (fun h1=>?_) hs hl hc4);obtain⟨g,o,u,ha,-,hu,hi⟩:=hLL.elem (q:=0) (by omega);refine⟨g,o,ha,?_⟩;obtain⟨v0,v1,v2,v3,v4,v5,v6,rfl,k0,-⟩:=hu;obtain⟨m2,_,_,_,_,_,-,hv,-⟩:=hi.shape;simp only [Value.agg.injEq, Array.mk.injEq, List.cons.injEq, and_true] at hv;obtain⟨rfl,-⟩:=hv;rw[kk_eq c (by omega)];rw[Nat.zero_mul,Nat.add_zero] at k0;exact below_cell k0 hW
 by_cases h5:k=5
 ·subst h5
  have e0:ent c s e l=((s+c.x.length,e,l),bare c.t c.f.length c.p.length 0 0 c.u.length):=by unfold ent;rw[if_neg (by rw[hk];omega),if_neg (by rw[hk];omega),if_neg (by rw[hk];omega),if_neg (by rw[hk];omega),if_pos hk]
  rw[e0];exact KEn.enter_with (fun W hW=>KAk.with_c hs (by omega))
 ·have e0:ent c s e l=((s,e,l),false):=by unfold ent;rw[if_neg (by rw[hk];omega),if_neg (by rw[hk];omega),if_neg (by rw[hk];omega),if_neg (by rw[hk];omega),if_neg (by rw[hk];omega)]
  rw[e0];by_cases h0:k<1
  ·exact KEn.enter_low h0
  ·exact KEn.enter_high (by omega)
theorem ent_bd (c:Co) {s e l:Int} (hs:0<=s/\s<=100000) (he:0<=e/\e<=100000) (hl:0<=l/\l<=100000):0<=(ent c s e l).1.1/\0<=(ent c s e l).1.2.1/\0<=(ent c s e l).1.2.2:=by
 unfold ent;repeat' split
 all_goals (dsimp only;omega)
theorem deep_top {s e l:Int} (h:deep s e l=false):s<=200000:=by
 unfold deep at h;simp at h
 omega
def plc (c:Co) (so si:Int):Bool:=
 if c.k=4 then (match c.x with
  | [x,y]=>KHs.hs so [x] && KHs.hs si [y]
  | _=>false)
 else (xsC c).all (fun x=>KHs.hs so [x])
theorem placed_c {m:Nat} {v:Value} {c:Co} {w:World} (hin:In false (fun _=>True) w m v c) {so eo lo si ei li:Int} (hso:0<=so/\so<=200000) (hsi:0<=si/\si<=200000) (h2:c.k=4->c.x.length=2) :
  Calls prog 105 #[v,av so eo lo,av si ei li] w fun e w'=>e=.returned (.bool (plc c so si))/\Below w.heap.size w w':=by
 by_cases hk:c.k=4
 ·obtain⟨x,y,hx⟩ : ∃ x y,c.x=[x,y]:=by
   have:=h2 hk;match hc:c.x with
   | []=>rw[hc] at this;simp at this
   | [a]=>rw[hc] at this;simp at this
   | [a,b]=>exact⟨a,b,rfl⟩
   | a :: b :: d :: t=>rw[hc] at this;simp at this
  have e0:plc c so si=(KHs.hs so [x] && KHs.hs si [y]):=by unfold plc;rw[if_pos hk,hx]
  rw[e0];exact KPd.placed_for hin hso hsi hk hx
 ·have e0:plc c so si=(xsC c).all (fun x=>KHs.hs so [x]):=by unfold plc;rw[if_neg hk]
  rw[e0];exact KPc.placed_range hin hso hsi hk
def own (c:Co) (r s e l:Int):Int:=
 if r<0 then 1504
 else if deep (ent c s e l).1.1 (ent c s e l).1.2.1 (ent c s e l).1.2.2=true then 1503
 else if (ent c s e l).2=false then 1500
 else if (xsC c).all rsv=false then 1501
 else if plc c s (ent c s e l).1.1=false then 1502
 else 0
def ndL:List Co->Int->Int->Int->Int->Int × Int
 | [],r,_,_,_=>(r,0)
 | .mk k t f p x l u :: cs,r,s,e,lo=>
  if own (.mk k t f p x l u) (lft (.mk k t f p x l u) r) s e lo≠0 then (lft (.mk k t f p x l u) r,own (.mk k t f p x l u) (lft (.mk k t f p x l u) r) s e lo)
  else if (ndL l (lft (.mk k t f p x l u) r) (ent (.mk k t f p x l u) s e lo).1.1 (ent (.mk k t f p x l u) s e lo).1.2.1 (ent (.mk k t f p x l u) s e lo).1.2.2).2≠0 then ndL l (lft (.mk k t f p x l u) r) (ent (.mk k t f p x l u) s e lo).1.1 (ent (.mk k t f p x l u) s e lo).1.2.1 (ent (.mk k t f p x l u) s e lo).1.2.2
  else if (ndL u (ndL l (lft (.mk k t f p x l u) r) (ent (.mk k t f p x l u) s e lo).1.1 (ent (.mk k t f p x l u) s e lo).1.2.1 (ent (.mk k t f p x l u) s e lo).1.2.2).1 (ent (.mk k t f p x l u) s e lo).1.1 (ent (.mk k t f p x l u) s e lo).1.2.1 (ent (.mk k t f p x l u) s e lo).1.2.2).2≠0 then ndL u (ndL l (lft (.mk k t f p x l u) r) (ent (.mk k t f p x l u) s e lo).1.1 (ent (.mk k t f p x l u) s e lo).1.2.1 (ent (.mk k t f p x l u) s e lo).1.2.2).1 (ent (.mk k t f p x l u) s e lo).1.1 (ent (.mk k t f p x l u) s e lo).1.2.1 (ent (.mk k t f p x l u) s e lo).1.2.2
  else ndL cs (ndL u (ndL l (lft (.mk k t f p x l u) r) (ent (.mk k t f p x l u) s e lo).1.1 (ent (.mk k t f p x l u) s e lo).1.2.1 (ent (.mk k t f p x l u) s e lo).1.2.2).1 (ent (.mk k t f p x l u) s e lo).1.1 (ent (.mk k t f p x l u) s e lo).1.2.1 (ent (.mk k t f p x l u) s e lo).1.2.2).1 s e lo
theorem ndL_nil (r s e l:Int):ndL [] r s e l=(r,0):=by rw[ndL]
theorem ndL_one' (k:Int) (t:ByteArray) (f:List Fld) (p:List Pt) (x:List Ex) (l' u:List Co) (r s e l:Int):ndL [(.mk k t f p x l' u)] r s e l =
  (if own (.mk k t f p x l' u) (lft (.mk k t f p x l' u) r) s e l≠0 then (lft (.mk k t f p x l' u) r,own (.mk k t f p x l' u) (lft (.mk k t f p x l' u) r) s e l)
  else if (ndL l' (lft (.mk k t f p x l' u) r) (ent (.mk k t f p x l' u) s e l).1.1 (ent (.mk k t f p x l' u) s e l).1.2.1 (ent (.mk k t f p x l' u) s e l).1.2.2).2≠0 then ndL l' (lft (.mk k t f p x l' u) r) (ent (.mk k t f p x l' u) s e l).1.1 (ent (.mk k t f p x l' u) s e l).1.2.1 (ent (.mk k t f p x l' u) s e l).1.2.2
  else ndL u (ndL l' (lft (.mk k t f p x l' u) r) (ent (.mk k t f p x l' u) s e l).1.1 (ent (.mk k t f p x l' u) s e l).1.2.1 (ent (.mk k t f p x l' u) s e l).1.2.2).1 (ent (.mk k t f p x l' u) s e l).1.1 (ent (.mk k t f p x l' u) s e l).1.2.1 (ent (.mk k t f p x l' u) s e l).1.2.2):=by
 rw[ndL,ndL_nil];by_cases h1:own (.mk k t f p x l' u) (lft (.mk k t f p x l' u) r) s e l≠0
 ·rw[if_pos h1,if_pos h1]
 ·rw[if_neg h1,if_neg h1]
  by_cases h2:(ndL l' (lft (.mk k t f p x l' u) r) (ent (.mk k t f p x l' u) s e l).1.1 (ent (.mk k t f p x l' u) s e l).1.2.1 (ent (.mk k t f p x l' u) s e l).1.2.2).2≠0
  ·rw[if_pos h2,if_pos h2]
  ·rw[if_neg h2,if_neg h2]
   split
   ·rfl
   ·next h=>
    have h':=Decidable.not_not.1 h;exact Prod.ext rfl h'.symm
theorem ndL_one (c:Co) (r s e l:Int):ndL [c] r s e l =
  (if own c (lft c r) s e l≠0 then (lft c r,own c (lft c r) s e l)
  else if (ndL c.l (lft c r) (ent c s e l).1.1 (ent c s e l).1.2.1 (ent c s e l).1.2.2).2≠0 then ndL c.l (lft c r) (ent c s e l).1.1 (ent c s e l).1.2.1 (ent c s e l).1.2.2
  else ndL c.u (ndL c.l (lft c r) (ent c s e l).1.1 (ent c s e l).1.2.1 (ent c s e l).1.2.2).1 (ent c s e l).1.1 (ent c s e l).1.2.1 (ent c s e l).1.2.2):=by
 obtain⟨k,t,f,p,x,l',u⟩:=c;exact ndL_one' k t f p x l' u r s e l
theorem ndL_cons (c:Co) (t:List Co) (r s e l:Int):ndL (c :: t) r s e l=(if (ndL [c] r s e l).2≠0 then ndL [c] r s e l else ndL t (ndL [c] r s e l).1 s e l):=by
 obtain⟨k,t',f,p,x,l',u⟩:=c;rw[ndL_one'];rw[ndL];by_cases h1:own (.mk k t' f p x l' u) (lft (.mk k t' f p x l' u) r) s e l≠0
 ·rw[if_pos h1,if_pos h1,if_pos h1]
 ·rw[if_neg h1,if_neg h1]
  by_cases h2:(ndL l' (lft (.mk k t' f p x l' u) r) (ent (.mk k t' f p x l' u) s e l).1.1 (ent (.mk k t' f p x l' u) s e l).1.2.1 (ent (.mk k t' f p x l' u) s e l).1.2.2).2≠0
  ·rw[if_pos h2,if_pos h2,if_pos h2]
  ·rw[if_neg h2,if_neg h2]
theorem lft_bd (c:Co) {r:Int} (h : -1<=r/\r<=65536) (hf:(c.f.length:Int)<=140737488351232) (hp:(c.p.length:Int)<=140737488351232) (hx:(c.x.length:Int)<=140737488351232) : -900000000000000000<=lft c r/\lft c r<=r:=by
 unfold lft;have:=KPi.bq_bd (xsC c) (r:=r - (1+c.f.length+c.p.length+c.x.length)) (by omega);omega
end Go.Proofs.YtdolgmmldncfkaaGreatDoor.KNp

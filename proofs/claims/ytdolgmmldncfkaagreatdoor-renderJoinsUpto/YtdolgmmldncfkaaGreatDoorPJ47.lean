import Derived.Test.YtdolgmmldncfkaaGreatDoorPJ46
open Go.Proofs.Tryz
set_option linter.unusedVariables false
set_option maxRecDepth 20000
set_option maxHeartbeats 3200000
namespace Go.Proofs.YtdolgmmldncfkaaGreatDoor.KCq
open Go.RowKit KBase KRn
open XBase (Rg frozen_box)
open Base (nx All heap_alloc_new add_none Keep six_box)
open XLend (flat flat_append El info_parts own_below new_cells)
theorem c_one {r:Bool} {S:Nat->Prop} {w:World} {m:Nat} {u:Value} {c:Co} (h:KBase.In r S w m u c):∃ v0 v1 v2 v3 v4 v5 v6,u=.agg #[v0,v1,v2,v3,v4,v5,v6]/\∀ x ∈ [v0,v1,v2,v3,v4,v5,v6],x.oneCell'=true:=by
 obtain⟨m',fv,pv,xv,lv,uv,-,rfl,-,-,hF,hP,⟨mx,hX⟩,hL,hU⟩:=h.shape;obtain⟨a1,b1,rfl,-⟩:=hF;obtain⟨a2,b2,rfl,-⟩:=hP;obtain⟨a3,b3,rfl,-⟩:=hX;obtain⟨a4,b4,rfl,-⟩:=hL;obtain⟨a5,b5,rfl,-⟩:=hU;refine⟨_,_,_,_,_,_,_,rfl,?_⟩;intro x hx;simp at hx
 rcases hx with rfl|rfl|rfl|rfl|rfl|rfl|rfl <;> rfl
def CC (m:Nat):Prop:=∀ (w:World) (v:Value) (c:Co),KBase.In false (fun _=>True) w m v c ->
  Calls prog 19 #[v] w fun e w'=>∃ u,e=.returned u/\KBase.In false (Rg w.heap.size w'.heap.size) w' m u c/\Below w.heap.size w w'
theorem infoCore:(prog.info? 42).map (fun i=>(i.zero,i.size,i.bytes))=some (some (.agg #[.int .i64 0,.string ⟨#[]⟩,.slice none 0 0,.slice none 0 0,.slice none 0 0,.slice none 0 0,.slice none 0 0]),7,144):=by kernel_rfl
theorem copyCores_c {m:Nat} {w:World} {v:Value} {l:List Co} (hin:InL false (fun _=>True) w m v l) (hm:CC m) :
  Calls prog 8 #[v] w fun e w'=>∃ u,e=.returned u/\Rw 7 144 Co7 rmC false (Rg w.heap.size w'.heap.size) w' ((fun S w=>KBase.In false S w m) (Rg w.heap.size w'.heap.size) w') u l/\Below w.heap.size w w':=by
 obtain⟨i0,hi,hz0,hz1,hz2⟩:=info_parts infoCore;obtain⟨a,cap,rfl,hlc,hcm,hlen,hnil,hL⟩:=hin
 go_enter func8,ntmps8;go_wp2_with fail
 go_loopw [3,4] (fun out i wr=>∃ (q:Nat) (us:List Value),q<=l.length/\us.length=q/\i=.int .i64 q/\OwnN wr w.heap.size 42 7 out us /\
   (∀ j (h:j<us.length) (h':j<l.length),(fun S w=>KBase.In false S w m) (El w.heap.size wr.heap.size out) wr us[j] l[j])/\Below w.heap.size w wr) (fun _ i _=>l.length - (intOf i).toNat)
 case atStart=>exact⟨0,[],by omega,rfl,rfl,⟨World.ownsRow_nil _ _ _ _,fun x hx=>by cases hx⟩,fun j h=>by simp at h,Below.refl _ _⟩
 case round=>
  obtain⟨q,us,hq,hus,rfl,hown,hels,hb⟩:=hrel;have hsz:=hb.size;by_cases hlt:q<l.length
  ·obtain⟨g,o,u,rfl,-,hu,hin⟩:=RwAt.elem hL hlt
   have hin:=hin.below hb;obtain⟨v0,v1,v2,v3,v4,v5,v6,rfl,d0,d1,d2,d3,d4,d5,d6⟩:=hu;have d0:=Base.below_cell d0 hb;have d1:=Base.below_cell d1 hb;have d2:=Base.below_cell d2 hb;have d3:=Base.below_cell d3 hb;have d4:=Base.below_cell d4 hb;have d5:=Base.below_cell d5 hb;have d6:=Base.below_cell d6 hb
   have c10:=hm wr _ _ hin
   have HH:=Base.hid hels;have Hus:=Base.hid hus;have Hown:=Base.hid hown;have hrow:=hown.1;have hlen2:us.length=q:=hus;clear hels hin hus hown;go_wp2_with (first
    | (go_at_call 19;refine c10.mono ?_;rintro e w1 ⟨u,rfl,hin1,b1⟩;obtain⟨x0,x1,x2,x3,x4,x5,x6,rfl,hone⟩:=c_one hin1;have hrow1:=World.ownsRow.alloc (own_below hrow b1) (.cells #[x0,x1,x2,x3,x4,x5,x6] 42);have hs1:=b1.size)
    | (at_builtin;refine wpList_append_own_at _ rfl _ _ 22 rfl w.heap.size 42 i0 (.agg #[.int .i64 0,.string ⟨#[]⟩,.slice none 0 0,.slice none 0 0,.slice none 0 0,.slice none 0 0,.slice none 0 0]) 7 144 underlying22 hi hz0 hz1 hz2 rfl (by decide) _ _ _ rfl hrow1 ⟨w1.heap.size,0,none⟩ 1 1 [x0,x1,x2,x3,x4,x5,x6] rfl rfl (new_cells _ _ _) (by simpa using hone) (by unfold maxLen;omega) (by omega) (by simp;omega) ?_))
   intro v' w2 hown' hgrow _ hat;have hels2:=els_step (Pd:=(fun S w=>KBase.In false S w m)) (fun hk h=>KBase.In.keep hk h) (fun hS h=>KBase.In.weak hS false id m (Nat.le_refl _) h) HH.out Hus.out hlt Hown.out b1 hin1 hsz _ hgrow hat;have hb3:=((hb.trans (b1.mono hsz)).alloc (by omega) (.cells #[x0,x1,x2,x3,x4,x5,x6] 42)).grown hgrow (by simp;omega) (fun k hk=>(World.ownsRow.lt hrow k hk).1);have ho2:OwnN w2 w.heap.size 42 7 v' (us ++ [.agg #[x0,x1,x2,x3,x4,x5,x6]]):=by
    refine⟨?_,nc_snoc Hown.out.2 ⟨[x0,x1,x2,x3,x4,x5,x6],rfl,rfl,hone⟩⟩;rw[flat_append,List.length_append,hlen2];exact hown'
   have hlen3:(us ++ [Value.agg #[x0,x1,x2,x3,x4,x5,x6]]).length=q+1:=by simp [hlen2]
   obtain⟨us2,hus2⟩ : ∃ us2,us ++ [Value.agg #[x0,x1,x2,x3,x4,x5,x6]]=us2:=⟨_,rfl⟩;rw[hus2] at hels2 ho2 hlen3;have H2:Hid (∀ j (h:j<us2.length) (h':j<l.length),(fun S w=>KBase.In false S w m) (El w.heap.size w2.heap.size v') w2 us2[j] l[j]):=fun j h h'=>hels2 j h h'
   clear hown' hgrow hat hrow hrow1 Hown HH Hus hels2 hus2 hin1 hone c10;go_wp2_with fail
   go_roundw
   case rel=>exact⟨q+1,us2,by omega,hlen3,by go_num,ho2,H2.out,hb3⟩
   case measure=>simp only [intOf];omega
  ·obtain rfl:q=l.length:=by omega
   have hnlt:decide ((l.length:Int)<(l.length:Int))=false:=by simp
   have HH:=Base.hid hels;have Hown:=Base.hid hown;have Hus:=Base.hid hus;clear hels hus hown;go_wp2_with fail
   go_ret
   have hus:=Hus.out;have ho2:=Hown.out;rcases ho2.1.2 with ⟨h0,h1⟩|⟨g,cap2,cur,rfl,_,_,hn2,hm2,_⟩
   ·have hl0:l=[]:=List.eq_nil_of_length_eq_zero (by omega)
    subst hl0;exact⟨_,rfl,⟨none,0,h0,by simp,by simp,by simp,fun _=>rfl,.inl ⟨rfl,rfl⟩⟩,hb⟩
   ·refine⟨_,rfl,?_,hb⟩
    try rw[hus]
    refine⟨some ⟨g,0,none⟩,cap2,rfl,by omega,hm2,hlen,(fun h=>by cases h),.inr ⟨g,0,rfl,⟨ho2.lt.1,ho2.lt.2⟩,?_,fun h=>by cases h⟩⟩;intro j hj;exact⟨_,OwnN.co ho2 j (by omega),(fun {S S':Nat->Prop} {w:World} {u:Value} {c:Co} (hS:∀ b,S b->S' b) (h:(fun S w=>KBase.In false S w m) S w u c)=>(KBase.In.weak hS false id m (Nat.le_refl _) h:(fun S w=>KBase.In false S w m) S' w u c)) (fun b hS=>⟨hS.1,hS.2.1⟩) (HH.out j (by omega) hj)⟩
theorem core_of {m:Nat} (hm:CC m):CC (m+1):=by
 intro w v c hin
 rw[in_succ] at hin
 obtain⟨fv,pv,xv,lv,uv,rfl,hk,ht,hF,hP,⟨mx,hX⟩,hL,hU⟩:=hin
 have HF:=Base.hid hF;have HP:=Base.hid hP;have HX:=Base.hid hX;have HL:=Base.hid hL;have HU:=Base.hid hU;obtain⟨a1,b1,rfl,-⟩:=hF;obtain⟨a2,b2,rfl,-⟩:=hP;obtain⟨a3,b3,rfl,-⟩:=hX;obtain⟨a4,b4,rfl,-⟩:=hL;obtain⟨a5,b5,rfl,-⟩:=hU;obtain⟨W1,hW1⟩ : ∃ W1,(w.alloc (.cells #[.int .i64 c.k,.string c.t,.slice a1 c.f.length b1,.slice a2 c.p.length b2,.slice a3 c.x.length b3,.slice a4 c.l.length b4,.slice a5 c.u.length b5] 42)).alloc (.cells #[.int .i64 0,.string ⟨#[]⟩,.slice none 0 0,.slice none 0 0,.slice none 0 0,.slice none 0 0,.slice none 0 0] 42)=W1:=⟨_,rfl⟩;have HB1:Hid (Below w.heap.size w W1):=by rw[<- hW1];exact ((Below.refl _ w).alloc (Nat.le_refl _) _).alloc (by simp) _
 have hs1:W1.heap.size=w.heap.size+2:=by rw[<- hW1];simp
 have HA1:Hid (W1.heap[w.heap.size]? = some (.cells #[.int .i64 c.k,.string c.t,.slice a1 c.f.length b1,.slice a2 c.p.length b2,.slice a3 c.x.length b3,.slice a4 c.l.length b4,.slice a5 c.u.length b5] 42 (0,0))):=by rw[<- hW1,Below.heap_alloc _ _ _ (by simp)];exact heap_alloc_new w _
 have HZ1:Hid (W1.heap[w.heap.size+1]? = some (.cells #[.int .i64 0,.string ⟨#[]⟩,.slice none 0 0,.slice none 0 0,.slice none 0 0,.slice none 0 0,.slice none 0 0] 42 (0,0))):=by
  have:=heap_alloc_new (w.alloc (.cells #[.int .i64 c.k,.string c.t,.slice a1 c.f.length b1,.slice a2 c.p.length b2,.slice a3 c.x.length b3,.slice a4 c.l.length b4,.slice a5 c.u.length b5] 42)) (.cells #[.int .i64 0,.string ⟨#[]⟩,.slice none 0 0,.slice none 0 0,.slice none 0 0,.slice none 0 0,.slice none 0 0] 42);rw[World.size_alloc,hW1] at this;exact this
 go_enter func19,ntmps19;have cc0:=KCp.copyFields_c (w:=W1) (RF.keep (Keep.of_below HB1.out) HF.out);obtain⟨p0,p1,p2,p3,p4,p5,p6⟩:=seven_box HA1.out;go_wp2_with fail
 try rw[hW1]
 refine cc0.mono ?_;rintro e V1 ⟨u,rfl,hu,bb⟩;have HU0:=Base.hid hu;obtain⟨n1,m1,rfl,-⟩:=hu;have hsv0:=bb.size;have HAv:=Base.hid ((bb.block w.heap.size (by omega)).trans HA1.out);have HZv:=Base.hid ((bb.block (w.heap.size+1) (by omega)).trans HZ1.out);have HBv:=Base.hid (nx HB1.out bb);obtain⟨W2,hW2⟩ : ∃ W,V1.setCell ⟨w.heap.size,2,none⟩ (.slice n1 c.f.length m1)=W:=⟨_,rfl⟩;have HA2:Hid (W2.heap[w.heap.size]? = some (.cells #[.int .i64 c.k,.string c.t,.slice n1 c.f.length m1,.slice a2 c.p.length b2,.slice a3 c.x.length b3,.slice a4 c.l.length b4,.slice a5 c.u.length b5] 42 (0,0))):=by rw[<- hW2];exact KCp.heap_setCell_same _ _ _ _ _ _ HAv.out
 have hoW2:∀ b:Nat,b≠w.heap.size->W2.heap[b]? = V1.heap[b]?:=fun b hb=>by rw[<- hW2,Below.heap_setCell _ _ _ _ hb]
 have HZ2:=Base.hid ((hoW2 _ (by omega)).trans HZv.out);have hs2:W2.heap.size=V1.heap.size:=by rw[<- hW2];simp [World.setCell]
 have HB2:Hid (Below w.heap.size w W2):=by rw[<- hW2];exact HBv.out.setCell (p:=⟨w.heap.size,2,none⟩) (Nat.le_refl _) _
 have HG0:=Base.hid bb;obtain⟨q0,q1,q2,q3,q4,q5,q6⟩:=seven_box HAv.out;have qf:=frozen_box HAv.out 2;clear cc0 bb p0 p1 p2 p3 p4 p5 p6;have cc1:=KCp.copyParts_c (w:=W2) (RP.keep (Keep.of_below HB2.out) HP.out);obtain⟨p0,p1,p2,p3,p4,p5,p6⟩:=seven_box HA2.out;go_wp2_with fail
 refine cc1.mono ?_;rintro e V2 ⟨u,rfl,hu,bb⟩;have HU1:=Base.hid hu;obtain⟨n2,m2,rfl,-⟩:=hu;have hsv1:=bb.size;have HAv:=Base.hid ((bb.block w.heap.size (by omega)).trans HA2.out);have HZv:=Base.hid ((bb.block (w.heap.size+1) (by omega)).trans HZ2.out);have HBv:=Base.hid (nx HB2.out bb);obtain⟨W3,hW3⟩ : ∃ W,V2.setCell ⟨w.heap.size,3,none⟩ (.slice n2 c.p.length m2)=W:=⟨_,rfl⟩;have HA3:Hid (W3.heap[w.heap.size]? = some (.cells #[.int .i64 c.k,.string c.t,.slice n1 c.f.length m1,.slice n2 c.p.length m2,.slice a3 c.x.length b3,.slice a4 c.l.length b4,.slice a5 c.u.length b5] 42 (0,0))):=by rw[<- hW3];exact KCp.heap_setCell_same _ _ _ _ _ _ HAv.out
 have hoW3:∀ b:Nat,b≠w.heap.size->W3.heap[b]? = V2.heap[b]?:=fun b hb=>by rw[<- hW3,Below.heap_setCell _ _ _ _ hb]
 have HZ3:=Base.hid ((hoW3 _ (by omega)).trans HZv.out);have hs3:W3.heap.size=V2.heap.size:=by rw[<- hW3];simp [World.setCell]
 have HB3:Hid (Below w.heap.size w W3):=by rw[<- hW3];exact HBv.out.setCell (p:=⟨w.heap.size,3,none⟩) (Nat.le_refl _) _
 have HG1:=Base.hid bb;obtain⟨q0,q1,q2,q3,q4,q5,q6⟩:=seven_box HAv.out;have qf:=frozen_box HAv.out 3;clear cc1 bb p0 p1 p2 p3 p4 p5 p6;have cc2:=XCp.copyXs_of mx (XCp.copyAll mx) _ c.x W3 (HX.out.below HB3.out);obtain⟨p0,p1,p2,p3,p4,p5,p6⟩:=seven_box HA3.out;go_wp2_with fail
 refine cc2.mono ?_;rintro e V3 ⟨u,rfl,hu,bb⟩;have HU2:=Base.hid hu;obtain⟨n3,m3,rfl,-⟩:=hu;have hsv2:=bb.size;have HAv:=Base.hid ((bb.block w.heap.size (by omega)).trans HA3.out);have HZv:=Base.hid ((bb.block (w.heap.size+1) (by omega)).trans HZ3.out);have HBv:=Base.hid (nx HB3.out bb);obtain⟨W4,hW4⟩ : ∃ W,V3.setCell ⟨w.heap.size,4,none⟩ (.slice n3 c.x.length m3)=W:=⟨_,rfl⟩;have HA4:Hid (W4.heap[w.heap.size]? = some (.cells #[.int .i64 c.k,.string c.t,.slice n1 c.f.length m1,.slice n2 c.p.length m2,.slice n3 c.x.length m3,.slice a4 c.l.length b4,.slice a5 c.u.length b5] 42 (0,0))):=by rw[<- hW4];exact KCp.heap_setCell_same _ _ _ _ _ _ HAv.out
 have hoW4:∀ b:Nat,b≠w.heap.size->W4.heap[b]? = V3.heap[b]?:=fun b hb=>by rw[<- hW4,Below.heap_setCell _ _ _ _ hb]
 have HZ4:=Base.hid ((hoW4 _ (by omega)).trans HZv.out);have hs4:W4.heap.size=V3.heap.size:=by rw[<- hW4];simp [World.setCell]
 have HB4:Hid (Below w.heap.size w W4):=by rw[<- hW4];exact HBv.out.setCell (p:=⟨w.heap.size,4,none⟩) (Nat.le_refl _) _
 have HG2:=Base.hid bb;obtain⟨q0,q1,q2,q3,q4,q5,q6⟩:=seven_box HAv.out;have qf:=frozen_box HAv.out 4;clear cc2 bb p0 p1 p2 p3 p4 p5 p6;have cc3:=copyCores_c (w:=W4) (InL.below HL.out HB4.out) hm;obtain⟨p0,p1,p2,p3,p4,p5,p6⟩:=seven_box HA4.out;go_wp2_with fail
 refine cc3.mono ?_;rintro e V4 ⟨u,rfl,hu,bb⟩;have HU3:=Base.hid hu;obtain⟨n4,m4,rfl,-⟩:=hu;have hsv3:=bb.size;have HAv:=Base.hid ((bb.block w.heap.size (by omega)).trans HA4.out);have HZv:=Base.hid ((bb.block (w.heap.size+1) (by omega)).trans HZ4.out);have HBv:=Base.hid (nx HB4.out bb);obtain⟨W5,hW5⟩ : ∃ W,V4.setCell ⟨w.heap.size,5,none⟩ (.slice n4 c.l.length m4)=W:=⟨_,rfl⟩;have HA5:Hid (W5.heap[w.heap.size]? = some (.cells #[.int .i64 c.k,.string c.t,.slice n1 c.f.length m1,.slice n2 c.p.length m2,.slice n3 c.x.length m3,.slice n4 c.l.length m4,.slice a5 c.u.length b5] 42 (0,0))):=by rw[<- hW5];exact KCp.heap_setCell_same _ _ _ _ _ _ HAv.out
 have hoW5:∀ b:Nat,b≠w.heap.size->W5.heap[b]? = V4.heap[b]?:=fun b hb=>by rw[<- hW5,Below.heap_setCell _ _ _ _ hb]
 have HZ5:=Base.hid ((hoW5 _ (by omega)).trans HZv.out);have hs5:W5.heap.size=V4.heap.size:=by rw[<- hW5];simp [World.setCell]
 have HB5:Hid (Below w.heap.size w W5):=by rw[<- hW5];exact HBv.out.setCell (p:=⟨w.heap.size,5,none⟩) (Nat.le_refl _) _
 have HG3:=Base.hid bb;obtain⟨q0,q1,q2,q3,q4,q5,q6⟩:=seven_box HAv.out;have qf:=frozen_box HAv.out 5;clear cc3 bb p0 p1 p2 p3 p4 p5 p6;have cc4:=copyCores_c (w:=W5) (InL.below HU.out HB5.out) hm;obtain⟨p0,p1,p2,p3,p4,p5,p6⟩:=seven_box HA5.out;go_wp2_with fail
 refine cc4.mono ?_;rintro e V5 ⟨u,rfl,hu,bb⟩;have HU4:=Base.hid hu;obtain⟨n5,m5,rfl,-⟩:=hu;have hsv4:=bb.size;have HAv:=Base.hid ((bb.block w.heap.size (by omega)).trans HA5.out);have HZv:=Base.hid ((bb.block (w.heap.size+1) (by omega)).trans HZ5.out);have HBv:=Base.hid (nx HB5.out bb);obtain⟨W6,hW6⟩ : ∃ W,V5.setCell ⟨w.heap.size,6,none⟩ (.slice n5 c.u.length m5)=W:=⟨_,rfl⟩;have HA6:Hid (W6.heap[w.heap.size]? = some (.cells #[.int .i64 c.k,.string c.t,.slice n1 c.f.length m1,.slice n2 c.p.length m2,.slice n3 c.x.length m3,.slice n4 c.l.length m4,.slice n5 c.u.length m5] 42 (0,0))):=by rw[<- hW6];exact KCp.heap_setCell_same _ _ _ _ _ _ HAv.out
 have hoW6:∀ b:Nat,b≠w.heap.size->W6.heap[b]? = V5.heap[b]?:=fun b hb=>by rw[<- hW6,Below.heap_setCell _ _ _ _ hb]
 have HZ6:=Base.hid ((hoW6 _ (by omega)).trans HZv.out);have hs6:W6.heap.size=V5.heap.size:=by rw[<- hW6];simp [World.setCell]
 have HB6:Hid (Below w.heap.size w W6):=by rw[<- hW6];exact HBv.out.setCell (p:=⟨w.heap.size,6,none⟩) (Nat.le_refl _) _
 have HG4:=Base.hid bb;obtain⟨q0,q1,q2,q3,q4,q5,q6⟩:=seven_box HAv.out;have qf:=frozen_box HAv.out 6;clear cc4 bb p0 p1 p2 p3 p4 p5 p6;obtain⟨p0,p1,p2,p3,p4,p5,p6⟩:=seven_box HA6.out;obtain⟨z0,z1,z2,z3,z4,z5,z6⟩:=seven_box HZ6.out;have zf0:=frozen_box HZ6.out 0;have zf1:=frozen_box HZ6.out 1;have zf2:=frozen_box HZ6.out 2;have zf3:=frozen_box HZ6.out 3;have zf4:=frozen_box HZ6.out 4;have zf5:=frozen_box HZ6.out 5;have zf6:=frozen_box HZ6.out 6
 obtain⟨W7,hW7⟩ : ∃ W7,(((((((W6.setCell ⟨w.heap.size+1,0,none⟩ (.int .i64 c.k)).setCell ⟨w.heap.size+1,1,none⟩ (.string c.t)).setCell ⟨w.heap.size+1,2,none⟩ (.slice n1 c.f.length m1)).setCell ⟨w.heap.size+1,3,none⟩ (.slice n2 c.p.length m2)).setCell ⟨w.heap.size+1,4,none⟩ (.slice n3 c.x.length m3)).setCell ⟨w.heap.size+1,5,none⟩ (.slice n4 c.l.length m4)).setCell ⟨w.heap.size+1,6,none⟩ (.slice n5 c.u.length m5))=W7:=⟨_,rfl⟩;have HZ7:Hid (W7.heap[w.heap.size+1]? = some (.cells #[.int .i64 c.k,.string c.t,.slice n1 c.f.length m1,.slice n2 c.p.length m2,.slice n3 c.x.length m3,.slice n4 c.l.length m4,.slice n5 c.u.length m5] 42 (0,0))):=by rw[<- hW7];exact (KCp.heap_setCell_same _ _ _ _ _ _ (KCp.heap_setCell_same _ _ _ _ _ _ (KCp.heap_setCell_same _ _ _ _ _ _ (KCp.heap_setCell_same _ _ _ _ _ _ (KCp.heap_setCell_same _ _ _ _ _ _ (KCp.heap_setCell_same _ _ _ _ _ _ (KCp.heap_setCell_same _ _ _ _ _ _ HZ6.out)))))))
 have ho7:∀ b:Nat,b≠w.heap.size+1->W7.heap[b]? = W6.heap[b]?:=fun b hb=>by rw[<- hW7];iterate 7 rw[Below.heap_setCell _ _ _ _ hb]
 have hs7:W7.heap.size=W6.heap.size:=by rw[<- hW7];simp [World.setCell]
 have HB7:Hid (Below w.heap.size w W7):=by rw[<- hW7];exact (((((((HB6.out.setCell (p:=⟨w.heap.size+1,0,none⟩) (show w.heap.size<=w.heap.size+1 by omega) _).setCell (p:=⟨w.heap.size+1,1,none⟩) (show w.heap.size<=w.heap.size+1 by omega) _).setCell (p:=⟨w.heap.size+1,2,none⟩) (show w.heap.size<=w.heap.size+1 by omega) _).setCell (p:=⟨w.heap.size+1,3,none⟩) (show w.heap.size<=w.heap.size+1 by omega) _).setCell (p:=⟨w.heap.size+1,4,none⟩) (show w.heap.size<=w.heap.size+1 by omega) _).setCell (p:=⟨w.heap.size+1,5,none⟩) (show w.heap.size<=w.heap.size+1 by omega) _).setCell (p:=⟨w.heap.size+1,6,none⟩) (show w.heap.size<=w.heap.size+1 by omega) _)
 have hk0:Keep (Rg W1.heap.size V1.heap.size) V1 W7:=by
  intro b hS hb;have h1:=hS.1;have h2:=hS.2;rw[ho7 b (by omega),hoW6 b (by omega),HG4.out.block b (by omega),hoW5 b (by omega),HG3.out.block b (by omega),hoW4 b (by omega),HG2.out.block b (by omega),hoW3 b (by omega),HG1.out.block b (by omega),hoW2 b (by omega)]
 have HV0:Hid (Rw 8 104 Fd8 rmF false (Rg w.heap.size W7.heap.size) W7 (InF false (Rg w.heap.size W7.heap.size) W7) (.slice n1 c.f.length m1) c.f):=(RF.keep hk0 HU0.out).weak_of (fun b hS=>⟨by have:=hS.1;omega,by have:=hS.2;omega⟩) false id (fun _ _ _ h=>InF.weak (fun b hS=>⟨by have:=hS.1;omega,by have:=hS.2;omega⟩) false id h);have hk1:Keep (Rg W2.heap.size V2.heap.size) V2 W7:=by
  intro b hS hb;have h1:=hS.1;have h2:=hS.2;rw[ho7 b (by omega),hoW6 b (by omega),HG4.out.block b (by omega),hoW5 b (by omega),HG3.out.block b (by omega),hoW4 b (by omega),HG2.out.block b (by omega),hoW3 b (by omega)]
 have HV1:Hid (Rw 6 80 Pt6 rmP false (Rg w.heap.size W7.heap.size) W7 (InP false (Rg w.heap.size W7.heap.size) W7) (.slice n2 c.p.length m2) c.p):=(RP.keep hk1 HU1.out).weak_of (fun b hS=>⟨by have:=hS.1;omega,by have:=hS.2;omega⟩) false id (fun _ _ _ h=>InP.weak (fun b hS=>⟨by have:=hS.1;omega,by have:=hS.2;omega⟩) false id h);have hk2:Keep (Rg W3.heap.size V3.heap.size) V3 W7:=by
  intro b hS hb;have h1:=hS.1;have h2:=hS.2;rw[ho7 b (by omega),hoW6 b (by omega),HG4.out.block b (by omega),hoW5 b (by omega),HG3.out.block b (by omega),hoW4 b (by omega)]
 have HV2:Hid (XBase.InL false (Rg w.heap.size W7.heap.size) W7 mx (.slice n3 c.x.length m3) c.x):=(HU2.out.keep hk2).weak (fun b hS=>⟨by have:=hS.1;omega,by have:=hS.2;omega⟩) false id mx (Nat.le_refl _);have hk3:Keep (Rg W4.heap.size V4.heap.size) V4 W7:=by
  intro b hS hb;have h1:=hS.1;have h2:=hS.2;rw[ho7 b (by omega),hoW6 b (by omega),HG4.out.block b (by omega),hoW5 b (by omega)]
 have HV3:Hid (Rw 7 144 Co7 rmC false (Rg w.heap.size W7.heap.size) W7 (KBase.In false (Rg w.heap.size W7.heap.size) W7 m) (.slice n4 c.l.length m4) c.l):=InL.weak (fun b hS=>⟨by have:=hS.1;omega,by have:=hS.2;omega⟩) false id m (Nat.le_refl _) (InL.keep hk3 HU3.out);have hk4:Keep (Rg W5.heap.size V5.heap.size) V5 W7:=by
  intro b hS hb;have h1:=hS.1;have h2:=hS.2;rw[ho7 b (by omega),hoW6 b (by omega)]
 have HV4:Hid (Rw 7 144 Co7 rmC false (Rg w.heap.size W7.heap.size) W7 (KBase.In false (Rg w.heap.size W7.heap.size) W7 m) (.slice n5 c.u.length m5) c.u):=InL.weak (fun b hS=>⟨by have:=hS.1;omega,by have:=hS.2;omega⟩) false id m (Nat.le_refl _) (InL.keep hk4 HU4.out);obtain⟨y0,y1,y2,y3,y4,y5,y6⟩:=seven_box HZ7.out;clear ho7 hoW2 hoW3 hoW4 hoW5 hoW6 hk0 hk1 hk2 hk3 hk4;go_wp2_with fail
 try rw[hW7]
 refine bodyPost_ret (v:=.agg #[.int .i64 c.k,.string c.t,.slice n1 c.f.length m1,.slice n2 c.p.length m2,.slice n3 c.x.length m3,.slice n4 c.l.length m4,.slice n5 c.u.length m5]) (by simp [results, results19, go_sem, y0, y1, y2, y3, y4, y5, y6]) rfl ?_;refine⟨_,rfl,?_,HB7.out⟩;rw[in_succ];exact⟨_,_,_,_,_,rfl,hk,ht,HV0.out,HV1.out,⟨mx,HV2.out⟩,HV3.out,HV4.out⟩
theorem core_all:∀ m,CC m
 | 0=>fun w v c h=>(in_zero h).elim
 | m+1=>core_of (core_all m)
end Go.Proofs.YtdolgmmldncfkaaGreatDoor.KCq
namespace Go.Proofs.YtdolgmmldncfkaaGreatDoor.KRj
open Go.RowKit KBase KRn
open XBase (Rg frozen_box)
open Base (nx All heap_alloc_new add_none Keep)
open XLend (flat flat_append El info_parts own_below new_cells)
theorem copyO_c {m:Nat} {w:World} {v:Value} {l:List Co} (hin:InL false (fun _=>True) w m v l) :
  Calls prog 8 #[v] w fun e w'=>∃ u us,e=.returned u/\OwnN w' w.heap.size 42 7 u us/\us.length=l.length/\Hid (∀ j (h:j<us.length) (h':j<l.length),KBase.In false (El w.heap.size w'.heap.size u) w' m us[j] l[j])/\Below w.heap.size w w':=by
 obtain⟨i0,hi,hz0,hz1,hz2⟩:=info_parts KCq.infoCore;obtain⟨a,cap,rfl,hlc,hcm,hlen,hnil,hL⟩:=hin
 go_enter func8,ntmps8;go_wp2_with fail
 go_loopw [3,4] (fun out i wr=>∃ (q:Nat) (us:List Value),q<=l.length/\us.length=q/\i=.int .i64 q/\OwnN wr w.heap.size 42 7 out us /\
   (∀ j (h:j<us.length) (h':j<l.length),KBase.In false (El w.heap.size wr.heap.size out) wr m us[j] l[j])/\Below w.heap.size w wr) (fun _ i _=>l.length - (intOf i).toNat)
 case atStart=>exact⟨0,[],by omega,rfl,rfl,⟨World.ownsRow_nil _ _ _ _,fun x hx=>by cases hx⟩,fun j h=>by simp at h,Below.refl _ _⟩
 case round=>
  obtain⟨q,us,hq,hus,rfl,hown,hels,hb⟩:=hrel;have hsz:=hb.size;by_cases hlt:q<l.length
  ·obtain⟨g,o,u,rfl,-,hu,hin⟩:=RwAt.elem hL hlt
   have hin:=hin.below hb;obtain⟨v0,v1,v2,v3,v4,v5,v6,rfl,d0,d1,d2,d3,d4,d5,d6⟩:=hu;have d0:=Base.below_cell d0 hb;have d1:=Base.below_cell d1 hb;have d2:=Base.below_cell d2 hb;have d3:=Base.below_cell d3 hb;have d4:=Base.below_cell d4 hb;have d5:=Base.below_cell d5 hb;have d6:=Base.below_cell d6 hb
   have c10:=KCq.core_all m wr _ _ hin
   have HH:=Base.hid hels;have Hus:=Base.hid hus;have Hown:=Base.hid hown;have hrow:=hown.1;have hlen2:us.length=q:=hus;clear hels hin hus hown;go_wp2_with (first
    | (go_at_call 19;refine c10.mono ?_;rintro e w1 ⟨u,rfl,hin1,b1⟩;obtain⟨x0,x1,x2,x3,x4,x5,x6,rfl,hone⟩:=KCq.c_one hin1;have hrow1:=World.ownsRow.alloc (own_below hrow b1) (.cells #[x0,x1,x2,x3,x4,x5,x6] 42);have hs1:=b1.size)
    | (at_builtin;refine wpList_append_own_at _ rfl _ _ 22 rfl w.heap.size 42 i0 (.agg #[.int .i64 0,.string ⟨#[]⟩,.slice none 0 0,.slice none 0 0,.slice none 0 0,.slice none 0 0,.slice none 0 0]) 7 144 underlying22 hi hz0 hz1 hz2 rfl (by decide) _ _ _ rfl hrow1 ⟨w1.heap.size,0,none⟩ 1 1 [x0,x1,x2,x3,x4,x5,x6] rfl rfl (new_cells _ _ _) (by simpa using hone) (by unfold maxLen;omega) (by omega) (by simp;omega) ?_))
   intro v' w2 hown' hgrow _ hat;have hels2:=els_step (Pd:=(fun S w=>KBase.In false S w m)) (fun hk h=>KBase.In.keep hk h) (fun hS h=>KBase.In.weak hS false id m (Nat.le_refl _) h) HH.out Hus.out hlt Hown.out b1 hin1 hsz _ hgrow hat;have hb3:=((hb.trans (b1.mono hsz)).alloc (by omega) (.cells #[x0,x1,x2,x3,x4,x5,x6] 42)).grown hgrow (by simp;omega) (fun k hk=>(World.ownsRow.lt hrow k hk).1);have ho2:OwnN w2 w.heap.size 42 7 v' (us ++ [.agg #[x0,x1,x2,x3,x4,x5,x6]]):=by
    refine⟨?_,nc_snoc Hown.out.2 ⟨[x0,x1,x2,x3,x4,x5,x6],rfl,rfl,hone⟩⟩;rw[flat_append,List.length_append,hlen2];exact hown'
   have hlen3:(us ++ [Value.agg #[x0,x1,x2,x3,x4,x5,x6]]).length=q+1:=by simp [hlen2]
   obtain⟨us2,hus2⟩ : ∃ us2,us ++ [Value.agg #[x0,x1,x2,x3,x4,x5,x6]]=us2:=⟨_,rfl⟩;rw[hus2] at hels2 ho2 hlen3;have H2:Hid (∀ j (h:j<us2.length) (h':j<l.length),KBase.In false (El w.heap.size w2.heap.size v') w2 m us2[j] l[j]):=fun j h h'=>hels2 j h h'
   clear hown' hgrow hat hrow hrow1 Hown HH Hus hels2 hus2 hin1 hone c10;go_wp2_with fail
   go_roundw
   case rel=>exact⟨q+1,us2,by omega,hlen3,by go_num,ho2,H2.out,hb3⟩
   case measure=>simp only [intOf];omega
  ·obtain rfl:q=l.length:=by omega
   have hnlt:decide ((l.length:Int)<(l.length:Int))=false:=by simp
   have HH:=Base.hid hels;have Hown:=Base.hid hown;have Hus:=Base.hid hus;clear hels hus hown;go_wp2_with fail
   go_ret
   exact⟨_,us,rfl,Hown.out,Hus.out,HH,hb⟩
theorem inL_of_own {w:World} {B m:Nat} {v:Value} {us:List Value} {l:List Co} (h:OwnN w B 42 7 v us) (hl:us.length=l.length) (hb:l.length*144<=140737488351232) (hel:∀ j (h:j<us.length) (h':j<l.length),KBase.In false (fun _=>True) w m us[j] l[j]):InL false (fun _=>True) w m v l:=by
 rcases h.1.2 with ⟨h0,h1⟩|⟨g,cap,cur,hv,_,_,hn,hm,_⟩
 ·obtain rfl:l=[]:=List.eq_nil_of_length_eq_zero (by omega)
  exact⟨none,0,h0,by simp,by simp,by simp,fun _=>rfl,.inl ⟨rfl,rfl⟩⟩
 ·subst hv
  refine⟨some ⟨g,0,none⟩,cap,by rw[hl],by omega,hm,hb,(fun h=>by cases h),.inr ⟨g,0,rfl,trivial,fun j hj=>?_,fun h=>by cases h⟩⟩;exact⟨_,h.co j (by omega),hel j (by omega) hj⟩
theorem nc_append {n:Nat} {a b:List Value} (h:Nc n a) (k:Nc n b):Nc n (a ++ b):=by
 intro x hx;rcases List.mem_append.1 hx with hx|hx
 ·exact h x hx
 ·exact k x hx
theorem flat_one {n:Nat} {us:List Value} (h:Nc n us):∀ u ∈ flat us,u.oneCell'=true:=by
 intro u hu;obtain⟨x,hx,hu⟩:=List.mem_flatMap.1 hu;obtain⟨vs,rfl,-,ho⟩:=h x hx;exact ho u (by simpa [Value.cells] using hu)
theorem joined {w w1 w2 w3:World} {m m':Nat} {u1 u2 v':Value} {us1 us2:List Value} {L M:List Co} (h1:OwnN w1 w.heap.size 42 7 u1 us1) (e1:us1.length=L.length) (k1:∀ j (h:j<us1.length) (h':j<L.length),KBase.In false (El w.heap.size w1.heap.size u1) w1 m us1[j] L[j])
  (b2:Below w1.heap.size w1 w2) (h2:OwnN w2 w1.heap.size 42 7 u2 us2) (e2:us2.length=M.length) (k2:∀ j (h:j<us2.length) (h':j<M.length),KBase.In false (El w1.heap.size w2.heap.size u2) w2 m' us2[j] M[j])
  (hown:w3.ownsRow w.heap.size 42 7 v' (us1.length+us2.length) (flat us1 ++ flat us2)) (hgrow:w2.grownBy w3 u1.ownBlock) (hb:(L ++ M).length*144<=140737488351232):InL false (fun _=>True) w3 (max m m') v' (L ++ M):=by
 have hlt:=World.ownsRow.lt h1.1;have hs2:=b2.size;refine inL_of_own (B:=w.heap.size) (us:=us1 ++ us2) ⟨?_,nc_append h1.2 h2.2⟩ (by simp [e1, e2]) hb ?_
 ·rw[flat_append,List.length_append]
  exact hown
 ·intro j hj hj'
  by_cases h:j<us1.length
  ·rw[List.getElem_append_left h,List.getElem_append_left (by omega)]
   refine (((k1 j h (by omega)).keep (w':=w3) ?_).weak (fun _ _=>trivial) false id (max m m') (by omega));intro b hS hb;rw[hgrow.block b (by omega) (fun e=>hS.2.2 e.symm),b2.block b hb]
  ·have hj2:j<us1.length+us2.length:=by simpa using hj
   rw[List.getElem_append_right (by omega),List.getElem_append_right (by omega)];have key:=(k2 (j - us1.length) (by omega) (by omega)).keep (w':=w3) (by
    intro b hS hb;exact hgrow.block b hb (fun e=>by have:=(hlt b e.symm).2;have:=hS.1;omega))
   simpa [e1] using key.weak (S':=fun _=>True) (fun _ _=>trivial) false id (max m m') (by omega)
end Go.Proofs.YtdolgmmldncfkaaGreatDoor.KRj

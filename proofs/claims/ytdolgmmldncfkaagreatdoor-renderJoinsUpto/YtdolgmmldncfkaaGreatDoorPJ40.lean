import Derived.Test.YtdolgmmldncfkaaGreatDoorPJ04
import Derived.Test.YtdolgmmldncfkaaGreatDoorPJ19
import Derived.Test.YtdolgmmldncfkaaGreatDoorPJ38
import Derived.Test.YtdolgmmldncfkaaGreatDoorPJ39
open Go.Proofs.Tryz
set_option linter.unusedVariables false
set_option maxRecDepth 20000
set_option maxHeartbeats 6400000
namespace Go.Proofs.YtdolgmmldncfkaaGreatDoor.GLk
open Tak
open Go.RowKit Base VSm GEn GBu GBe GNs GNo GPu GRn GNg GKy
open VPure hiding evL
open TBase (T)
theorem fm_trans {B Bb:Nat} {X Y X1 Y1:Option Nat} {w w1 w2:World} (h:Fm B Bb X Y w w1) (k:Fm B Bb X1 Y1 w1 w2) (hX:X1=X \/ ∃ x,X1=some x/\w.heap.size<=x) (hY:Y1=Y\/Y1=none \/ ∃ y,Y1=some y/\w.heap.size<=y) (hB:B<w.heap.size):Fm B Bb X Y w w2:=by
 have hs:=h.size;refine⟨fun n h1 h2 h3 h4=>(h.below n h1 h2 h3 h4).trans (k.below n h1 h2 (fun x e=>?_) (fun y e=>?_)),Nat.le_trans h.size k.size,fun b h1 h2 h3 h4 h5=>(k.other b (by omega) h2 h3 (fun e=>?_) (fun e=>?_)).trans (h.other b h1 h2 h3 h4 h5)⟩
 ·rcases hX with q|⟨z,q,hz⟩
  ·exact h3 x (q ▸ e)
  ·rw[q] at e;have:=Option.some.inj e;omega
 ·rcases hY with q|q|⟨z,q,hz⟩
  ·exact h4 y (q ▸ e)
  ·rw[q] at e;cases e
  ·rw[q] at e;have:=Option.some.inj e;omega
 ·rcases hX with q|⟨z,q,hz⟩
  ·exact h4 (e.trans q)
  ·rw[q] at e;have:=Option.some.inj e;omega
 ·rcases hY with q|q|⟨z,q,hz⟩
  ·exact h5 (e.trans q)
  ·rw[q] at e;cases e
  ·rw[q] at e;have:=Option.some.inj e;omega
theorem fm_wk {B Bb:Nat} {X Y:Option Nat} {w w':World} (h:Fm B B X Y w w'):Fm B Bb X Y w w':=⟨fun n h1 _ h3 h4=>h.below n h1 h1 h3 h4,h.size,fun b h1 h2 _ h4 h5=>h.other b h1 h2 h2 h4 h5⟩
theorem bt_move {lo Bb:Nat} {w w':World} {X X':Option Nat} {tv:Value} {F:List T} (h:Bt lo w Bb X tv F) (hs:w.heap.size<=w'.heap.size) (hb:w'.heap[Bb]? = w.heap[Bb]?) (ho:∀ b,lo<=b->b<w.heap.size->some b≠X->w'.heap[b]? = w.heap[b]?) (hx:X'=X \/ ∃ x,X'=some x/\w.heap.size<=x):Bt lo w' Bb X' tv F:=by
 obtain⟨us,how,hus,hel⟩:=h.own;have hne:∀ b,b<w.heap.size->some b≠X->some b≠X':=by
  intro b hb h0 e;rcases hx with k|⟨y,k,hy⟩
  ·exact h0 (e.trans k)
  ·rw[k] at e;have:=Option.some.inj e;omega
 refine⟨hb.trans h.box,h.lob,Nat.le_trans h.hi hs,fun g hg=>hne g (World.ownsRow.lt how.1 g hg).2 (h.xne g hg),us,⟨Fresh.own_keep how.1 (fun g hg=>ho g (World.ownsRow.lt how.1 g hg).1 (World.ownsRow.lt how.1 g hg).2 (h.xne g hg)),how.2⟩,hus,fun j h1 h2=>?_⟩;obtain⟨m,hi⟩:=hel j h1 h2;refine⟨m,?_⟩;have hi2:TBase.In false (fun b=>Es lo w.heap.size X tv b) w' m us[j] F[j]:=hi.keep (w':=w') (fun b hb _=>ho b hb.1 hb.2.1 hb.2.2.1);exact hi2.weak (fun b hb=>⟨hb.1,Nat.lt_of_lt_of_le hb.2.1 hs,hne b hb.2.1 hb.2.2.1,hb.2.2.2⟩) false id m (Nat.le_refl _)
theorem round_c {K m lo q num:Nat} {W:World} {B Bb b0 bl b1 b2:Nat} {Pv tv lsv fv pv xv lv uv:Value} {sv:Sz} {x k:Int} {t:ByteArray} {L l:List C} {F:List T} {A:Except Nat (List T × Int)} (hw:Wr K m W B Bb Pv sv x L) (hb:Bt lo W Bb Pv.ownBlock tv F) (hBlo:B<lo) (hF:(F.length:Int)+x<=65536)
  (g0:W.heap[b0]? = some (.cells #[ptr B] 112 (0,0))) (gl:W.heap[bl]? = some (.cells #[lsv] 24 (0,0))) (g1:W.heap[b1]? = some (.cells #[.int .i64 k,.string t,fv,pv,xv,lv,uv] 42 (0,0))) (g2:W.heap[b2]? = some (.cells #[.int .i64 num] 3 (0,0)))
  (hbx:∀ b,b=b0\/b=bl\/b=b1\/b=b2->(b≠B/\b≠Bb)/\some b≠Pv.ownBlock/\some b≠tv.ownBlock) (hl:Base.InL false (fun b=>b<K) W m lsv l) (hq:q<l.length) (hq9:q<=90000) (hwf:wf l[q]) (hL2:L.length+2<=100000) (h0:0<L.length) (hnum:num<=100000)
  (hN:∀ W' Pv',Wr K m W' B Bb Pv' sv x (L ++ [l[q],iV q])->Bt lo W' Bb Pv'.ownBlock tv F->Below K W W'->Calls prog 35 #[ptr B,lv,.int .i64 ((num:Int)+1)] W' fun e w'=>LR (Rs K m B Bb sv (L ++ [l[q],iV q])) lo B Bb Pv'.ownBlock tv F W' A e w') :
  Calls prog 119 #[.int .i64 q,ptr b0,ptr bl,ptr b1,ptr b2] W fun e w'=>LR (Rs K m B Bb sv L) lo B Bb Pv.ownBlock tv F W A e w':=by
 have hBw:=hw.lt;have hBbw:=(Array.getElem?_eq_some_iff.1 hb.box).1;obtain⟨la,lcap,rfl,hlc,hcm,hlen,hnil,hLA⟩:=hl;obtain⟨g,o,u,rfl,hgK,hu,hi⟩:=elem_at hLA hq;obtain⟨c,hc⟩ : ∃ c,l[q]=c:=⟨_,rfl⟩;rw[hc] at hi hwf hN;obtain⟨an,ln,cn,al,ll,cl,rfl⟩:=VRs.in_shape hi;obtain⟨v0,v1,v2,v3,v4,v5,he,k0,k1,k2,k3,k4,k5⟩:=hu;simp only [Value.agg.injEq, Array.mk.injEq, List.cons.injEq, and_true] at he;obtain⟨rfl,rfl,rfl,rfl,rfl,rfl⟩:=he;have hKB:=hw.lB;have hgl:=(Array.getElem?_eq_some_iff.1 gl).1;have hg0:=(Array.getElem?_eq_some_iff.1 g0).1;have hg1:=(Array.getElem?_eq_some_iff.1 g1).1;have hg2:=(Array.getElem?_eq_some_iff.1 g2).1;have HBX:Hid (∀ W':World,(∀ b,b<W.heap.size->(b≠B/\b≠Bb)->some b≠Pv.ownBlock->W'.heap[b]? = W.heap[b]?)->W'.heap[b0]? = some (.cells #[ptr B] 112 (0,0))/\W'.heap[bl]? = some (.cells #[.slice (some ⟨g,o,none⟩) l.length lcap] 24 (0,0))/\W'.cell? ⟨g,o+q*6,none⟩=some (.int .i64 c.k)/\W'.cell? ⟨g,o+q*6+1,none⟩=some (.bool c.b)/\W'.cell? ⟨g,o+q*6+2,none⟩=some (.int .i64 c.i)/\W'.cell? ⟨g,o+q*6+3,none⟩=some (.string c.s)/\W'.cell? ⟨g,o+q*6+4,none⟩=some (.slice an ln cn)/\W'.cell? ⟨g,o+q*6+5,none⟩=some (.slice al ll cl)):=by
  intro W' hW;have hgb:W'.heap[g]? = W.heap[g]?:=hW g (by omega) ⟨by omega,by have:=hw.lb;omega⟩ (fun e=>by have:=(hw.xb g e.symm).1;omega);exact⟨(hW b0 hg0 (hbx b0 (.inl rfl)).1 (hbx b0 (.inl rfl)).2.1).trans g0,(hW bl hgl (hbx bl (.inr (.inl rfl))).1 (hbx bl (.inr (.inl rfl))).2.1).trans gl,(World.cell?_of_block (w:=W) hgb).trans k0,(World.cell?_of_block (w:=W) hgb).trans k1,(World.cell?_of_block (w:=W) hgb).trans k2,(World.cell?_of_block (w:=W) hgb).trans k3,(World.cell?_of_block (w:=W) hgb).trans k4,(World.cell?_of_block (w:=W) hgb).trans k5⟩
 have hBbB:Bb≠B:=fun e=>hw.ne e.symm
 have hBbX:some Bb≠Pv.ownBlock:=fun e=>(hw.xb Bb e.symm).2.2.2 rfl
 have HW:=hid hw;have HBT:=hid hb;have HIN:=hid hi;have HWF:=hid hwf;have HNN:=hid hN;have HBQ:=hid hbx;have HG1:=hid g1;have HG2:=hid g2;have p0:=one_b g0;have pl:=one_b gl;have i0:(0:Int)<=(q:Int):=by omega
 have i1:(q:Int)<(l.length:Int):=by omega
 obtain⟨e0,e1,e2,e3,e4,e5⟩:=And.intro k0 (And.intro k1 (And.intro k2 (And.intro k3 (And.intro k4 k5))));clear hw hb hi hwf hN hbx g0 gl g1 g2 hLA hc k0 k1 k2 k3 k4 k5 hnil;go_enter func119,ntmps119;go_wp2_with fail
 refine wp_region_held_drew (S:=fun w'=>w'.cell? ⟨b0,0,none⟩=some (ptr B)/\w'.cell? ⟨bl,0,none⟩=some (.slice (some ⟨g,o,none⟩) l.length lcap)/\w'.cell? ⟨g,o+q*6,none⟩=some (.int .i64 c.k)/\w'.cell? ⟨g,o+q*6+1,none⟩=some (.bool c.b)/\w'.cell? ⟨g,o+q*6+2,none⟩=some (.int .i64 c.i)/\w'.cell? ⟨g,o+q*6+3,none⟩=some (.string c.s)/\w'.cell? ⟨g,o+q*6+4,none⟩=some (.slice an ln cn)/\w'.cell? ⟨g,o+q*6+5,none⟩=some (.slice al ll cl)) (by kernel_rfl) (by exact⟨p0,pl,e0,e1,e2,e3,e4,e5⟩) (fun hHeld=>?_);refine tkH 0 rfl ?_;try simp only [ptH]
 refine tkH 1 rfl ?_;try simp only [ptH]
 refine tkH 2 rfl ?_;try simp only [ptH]
 refine tkH 3 rfl ?_;try simp only [ptH]
 refine tkH 4 rfl ?_;try simp only [ptH]
 refine tkH 5 rfl ?_;try simp only [ptH]
 refine tkH 6 rfl ?_;try simp only [ptH]
 refine tkH 7 rfl ?_;try simp only [ptH]
 refine rdH [8] ?_;refine alH rfl fun K0 hK=>?_
 go_simp
 refine (whole_c q W.drew).mono ?_;rintro ee W2 ⟨rfl,b2d⟩;have bb2:Below W.heap.size W W2:=(Below.refl _ W).drew.trans b2d;have s2:=bb2.size;have p0:=one_b (HBX.out W2 (fun b h1 h2 h3=>bb2.block b h1)).1;have pl:=one_b (HBX.out W2 (fun b h1 h2 h3=>bb2.block b h1)).2.1;obtain⟨e0,e1,e2,e3,e4,e5⟩:=(HBX.out W2 (fun b h1 h2 h3=>bb2.block b h1)).2.2;refine hK.out _ _ (by exact⟨p0,pl,e0,e1,e2,e3,e4,e5⟩) (fun hHeld=>?_);clear hK K0;try simp only [ptH]
 obtain⟨W3,hW3⟩ : ∃ W',W2.alloc (.cells #[.int .i64 c.k,.bool c.b,.int .i64 c.i,.string c.s,.slice an ln cn,.slice al ll cl,.int .i64 3,.bool false,.int .i64 q,.string ⟨#[]⟩,.slice none 0 0,.slice none 0 0] 26)=W':=⟨_,rfl⟩;have b3:=alB hW3;have s3:=alS hW3;have b13:=bb2.trans (b3.mono s2);have hnc:∀ j u,(flat [.agg #[.int .i64 c.k,.bool c.b,.int .i64 c.i,.string c.s,.slice an ln cn,.slice al ll cl],.agg #[.int .i64 3,.bool false,.int .i64 q,.string ⟨#[]⟩,.slice none 0 0,.slice none 0 0]])[j]? = some u->W3.cell? ((⟨W2.heap.size,0,none⟩ : Addr).add j)=some u:=by
  rw[<- hW3];exact Base.new_cells W2 _ 26
 have cP:=push_c (cp:=2) (N:=[c,iV q]) (Ns:=[.agg #[.int .i64 c.k,.bool c.b,.int .i64 c.i,.string c.s,.slice an ln cn,.slice al ll cl],.agg #[.int .i64 3,.bool false,.int .i64 q,.string ⟨#[]⟩,.slice none 0 0,.slice none 0 0]]) (HW.out.below b13) (by simpa using hL2) (by omega) rfl (fun u hu=>?_) (fun j a b=>?_) (fun c' hc'=>?_) hnc;rotate_left 1
 ·rcases List.mem_cons.1 hu with e|hu
  ·rw[e];exact⟨_,_,_,_,_,_,rfl,by simp [Value.oneCell']⟩
  ·rw[List.mem_singleton.1 hu];exact⟨_,_,_,_,_,_,rfl,by simp [Value.oneCell']⟩
 ·match j,a with
  | 0,_=>exact (HIN.out.below b13).weak (fun _ h=>h) false id _ (by omega)
  | 1,_=>exact int_in W3 (fun b=>b<K) m q (by omega)
  | j+2,a=>simp at a;omega
 ·rcases List.mem_cons.1 hc' with e|hc'
  ·rw[e];exact HWF.out
  ·rw[List.mem_singleton.1 hc'];exact int_wf q
 have HW3:=hid hW3;have p0:=one_b (HBX.out W3 (fun b h1 h2 h3=>b13.block b h1)).1;have pl:=one_b (HBX.out W3 (fun b h1 h2 h3=>b13.block b h1)).2.1;obtain⟨e0,e1,e2,e3,e4,e5⟩:=(HBX.out W3 (fun b h1 h2 h3=>b13.block b h1)).2.2;refine rdH [9] ?_;refine alH rfl fun K0 hK=>?_
 go_simp
 try rw[HW3.out]
 refine hK.out _ _ (by exact⟨p0,pl,e0,e1,e2,e3,e4,e5⟩) (fun hHeld=>?_);clear hK K0;try simp only [ptH]
 refine rdH [10] ?_;refine alH rfl fun K0 hK=>?_
 go_simp
 refine cP.mono ?_;rintro ee W4 ⟨⟨v4,rfl⟩,Pv4,hw4,hat4,hf4⟩;have s4:=hf4.size;have hfW:Fm B Bb Pv.ownBlock tv.ownBlock W W4:=fm_trans (fm_below b13 hBw) (fm_wk hf4) (.inl rfl) (.inr (.inl rfl)) hBw;have hX4:Pv4.ownBlock=Pv.ownBlock \/ ∃ y,Pv4.ownBlock=some y/\W.heap.size<=y:=hat4.imp (fun e=>e) (fun ⟨y,e,hy⟩=>⟨y,e,by omega⟩);have hbb4:W4.heap[Bb]? = W.heap[Bb]?:=(hf4.other Bb (by omega) hBbB hBbB hBbX (by simp)).trans (b13.block Bb hBbw);have hbt4:Bt lo W4 Bb Pv4.ownBlock tv F:=bt_move HBT.out (by omega) hbb4 (fun b h1 h2 h3=>(hf4.other b (by omega) (by omega) (by omega) h3 (by simp)).trans (b13.block b h2)) hX4;have HO4:Hid (∀ b,b<W.heap.size->b≠B->b≠Bb->some b≠Pv.ownBlock->W4.heap[b]? = W.heap[b]?):=fun b h1 h2 h3 h4=>(hf4.other b (by omega) h2 h2 h4 (by simp)).trans (b13.block b h1)
 have p0:=one_b (HBX.out W4 (fun b h1 h2 h3=>HO4.out b h1 h2.1 h2.2 h3)).1;have pl:=one_b (HBX.out W4 (fun b h1 h2 h3=>HO4.out b h1 h2.1 h2.2 h3)).2.1;obtain⟨e0,e1,e2,e3,e4,e5⟩:=(HBX.out W4 (fun b h1 h2 h3=>HO4.out b h1 h2.1 h2.2 h3)).2.2;refine hK.out _ _ (by exact⟨p0,pl,e0,e1,e2,e3,e4,e5⟩) (fun hHeld=>?_);clear hK K0;try simp only [ptH]
 refine dnH ?_;have hne0:∀ b,b=b0\/b=bl\/b=b1\/b=b2->b<W.heap.size:=by
  intro b hb;rcases hb with rfl|rfl|rfl|rfl
  ·exact hg0
  ·exact hgl
  ·exact hg1
  ·exact hg2
 have hc1:=(HO4.out b1 hg1 (HBQ.out b1 (.inr (.inr (.inl rfl)))).1.1 (HBQ.out b1 (.inr (.inr (.inl rfl)))).1.2 (HBQ.out b1 (.inr (.inr (.inl rfl)))).2.1).trans HG1.out;have hc2:=(HO4.out b2 hg2 (HBQ.out b2 (.inr (.inr (.inr rfl)))).1.1 (HBQ.out b2 (.inr (.inr (.inr rfl)))).1.2 (HBQ.out b2 (.inr (.inr (.inr rfl)))).2.1).trans HG2.out;obtain⟨-,-,-,-,-,y5,-⟩:=seven_b hc1;have y2:=one_b hc2;have hwn:IntKind.i64.wrap ((num:Int)+1)=(num:Int)+1:=by rw[IntKind.wrap_i64];omega
 have htl:∀ y,tv.ownBlock=some y->K<=y:=fun y hy=>by have:=(bt_own HBT.out y hy).1;omega
 have bK:=hfW.below K hKB HW.out.lb (fun y hy=>(HW.out.xb y hy).1) htl;have cN:=HNN.out W4 Pv4 hw4 hbt4 bK;have HFW:=hid hfW;have HX4:=hid hX4;clear hfW hX4 hw4 hbt4 hf4 hat4 hbb4 bK htl hc1 hc2 cP;go_wp2_with fail
 refine cN.mono ?_;intro ee W5 hA5;cases A with
 | error z=>
  obtain⟨rfl,hf5⟩:=hA5;exact⟨rfl,rfl,fm_trans HFW.out hf5 HX4.out (.inl rfl) hBw⟩
 | ok a=>
  obtain⟨⟨v5,rfl⟩,hf5,X5,tv5,hx5,hx5l,⟨Pv5,hP5,hw5⟩,hbt5,hat5⟩:=hA5;subst hP5;have s5:=hf5.size;have hb5:W5.heap[b0]? = _:=(hf5.other b0 (by omega) (HBQ.out b0 (.inl rfl)).1.1 (HBQ.out b0 (.inl rfl)).1.2 (fun e=>by
   rcases HX4.out with k|⟨y,k,hy⟩
   ·exact (HBQ.out b0 (.inl rfl)).2.1 (e.trans k)
   ·rw[k] at e;have:=Option.some.inj e;omega) (HBQ.out b0 (.inl rfl)).2.2).trans (HBX.out W4 (fun b h1 h2 h3=>HO4.out b h1 h2.1 h2.2 h3)).1
  have hX5:Pv5.ownBlock=Pv.ownBlock \/ ∃ y,Pv5.ownBlock=some y/\W.heap.size<=y:=by
   rcases hx5 with k|⟨y,k,hy⟩
   ·rcases HX4.out with k'|⟨y,k',hy⟩
    ·exact .inl (k.trans k')
    ·exact .inr ⟨y,k.trans k',hy⟩
   ·exact .inr ⟨y,k,by omega⟩
  have HF5:=hid (fm_trans HFW.out hf5 HX4.out (.inl rfl) hBw);have cD:=drop_c (N:=[c,iV q]) hw5 h0;have p5:=one_b hb5;have HX5:=hid hX5;have HBT5:=hid hbt5;have HAT5:Hid (tv5.ownBlock=tv.ownBlock \/ ∃ g,tv5.ownBlock=some g/\W.heap.size<=g):=hat5.imp (fun e=>e) (fun ⟨y,e,hy⟩=>⟨y,e,by omega⟩);have hW5x:some Bb≠Pv5.ownBlock:=fun e=>(hw5.xb Bb e.symm).2.2.2 rfl
  clear hf5 hx5 hx5l hw5 hbt5 hat5 hX5 hb5 cN p0 pl e0 e1 e2 e3 e4 e5 y5 y2;go_wp2_with fail
  refine cD.mono ?_;rintro e W6 ⟨⟨v6,rfl⟩,Pv6,hw6,hp6,hf6⟩;have HE:Hid (Fm B Bb Pv.ownBlock tv.ownBlock W W6/\Bt lo W6 Bb Pv6.ownBlock tv5 (F ++ a.1)/\(Pv6.ownBlock=Pv.ownBlock \/ ∃ y,Pv6.ownBlock=some y/\W.heap.size<=y)):=by
   refine⟨fm_trans HF5.out (fm_wk hf6) HX5.out (.inr (.inl rfl)) hBw,bt_move HBT5.out hf6.size (hf6.other Bb (by omega) hBbB hBbB hW5x (by simp)) (fun b h1 h2 h3=>hf6.other b h2 (by omega) (by omega) h3 (by simp)) (.inl hp6),?_⟩;rw[hp6];exact HX5.out
  have HW6:=hid hw6;clear cD hp6 hf6 hw6;go_wp2_with fail
  go_end0
  exact⟨⟨_,rfl⟩,HE.out.1,Pv6.ownBlock,tv5,HE.out.2.2,fun y e=>(HW6.out.xb y e).2.1,⟨Pv6,rfl,HW6.out⟩,HE.out.2.1,HAT5.out⟩
end Go.Proofs.YtdolgmmldncfkaaGreatDoor.GLk
namespace Go.Proofs.YtdolgmmldncfkaaGreatDoor.TLend
open Go.RowKit TBase
theorem copyA_c (v:Value) (L:List (ByteArray × ByteArray)) (w:World) (h:Ax false All w v L) :
  Calls prog 41 #[v] w fun e w'=>∃ u,e=.returned u/\u ≠ .slice none 0 0/\OwnA w' w.heap.size u L/\Below w.heap.size w w':=by
 obtain⟨i0,hi,hz0,hz1,hz2⟩:=info_parts infoA;obtain⟨a,cap,rfl,hlc,hm,hlen,hsz,hnil,hN⟩:=h;have ho:OwnA (w.alloc (.cells #[] 89)) w.heap.size (.slice (some ⟨w.heap.size,0,none⟩) 0 0) []:=by
  refine⟨rfl,.inr ⟨w.heap.size,0,#[],rfl,Nat.le_refl _,heap_alloc_new w _,Nat.le_refl _,by simp [maxLen],rfl,rfl⟩⟩
 have hb:Below w.heap.size w (w.alloc (.cells #[] 89)):=(Below.refl _ w).alloc (Nat.le_refl _) _;cases a with
 | none=>
  obtain rfl:=hnil rfl;obtain rfl:L=[]:=List.eq_nil_of_length_eq_zero (by omega);go_enter func41,ntmps41;go_wp2_with fail
  go_ret
  exact⟨_,rfl,(fun h=>by cases h),ho,hb⟩
 | some x=>
  obtain⟨g,o,sp⟩:=x;have hnews:∀ j u,(flatA L)[j]? = some u->(w.alloc (.cells #[] 89)).cell? ((⟨g,o,sp⟩ : Addr).add j)=some u:=by
   intro j u hj;have hl:j<L.length*2:=by
    have:=(List.getElem?_eq_some_iff.1 hj).1;rwa [flatA_len] at this
   have hq:j / 2<L.length:=by omega
   obtain⟨g',o',e,-,hc,hc2⟩:=attr_at hN hq;cases e;rw[add_none];have hget:=flatA_get L (j / 2) hq;rcases Nat.mod_two_eq_zero_or_one j with hj2|hj2
   ·have e:j / 2*2=j:=by omega
    rw[e] at hget hc;rw[hget.1] at hj;cases hj;exact below_cell hc hb
   ·have e:j / 2*2+1=j:=by omega
    rw[e] at hget;rw[show o+j / 2*2+1=o+j by omega] at hc2;rw[hget.2] at hj;cases hj;exact below_cell hc2 hb
  have hfl:=flatA_len L;clear hN;go_enter func41,ntmps41;go_wp2_with (first
   | (at_builtin;refine wpList_append_own _ rfl _ _ 45 rfl w.heap.size 89 i0 (.agg #[.string ⟨#[]⟩,.string ⟨#[]⟩]) 2 32 underlying45 hi hz0 hz1 hz2 rfl (by decide) _ _ _ rfl ho ⟨g,o,sp⟩ L.length cap (flatA L) rfl (by rw[hfl]) hnews (one_attrs L) (by unfold maxLen;simp;omega) (by simp;omega) (by simp) ?_))
  intro v' w2 hown' hgrow hnn;have hb3:=hb.grown hgrow (by simp) (fun k hk=>by cases hk;exact Nat.le_refl _);have ho2:OwnA w2 w.heap.size v' L:=by
   unfold OwnA;simpa [flatA] using hown'
  have hn2:v' ≠ .slice none 0 0:=hnn;clear hown' hgrow ho hb hnews hnn;go_wp2_with fail
  go_ret
  exact⟨_,rfl,hn2,ho2,hb3⟩
theorem copyAx_c (v:Value) (L:List (ByteArray × ByteArray)) (w:World) (h:Ax false All w v L) :
  Calls prog 41 #[v] w fun e w'=>∃ u,e=.returned u/\Ax false (Rg w.heap.size w'.heap.size) w' u L/\Below w.heap.size w w':=by
 refine (copyA_c v L w h).mono ?_;rintro e w' ⟨u,rfl,hne,ho,hb⟩;obtain⟨a,cap,rfl,hlc,hm,hlen,hsz,hnil,hN⟩:=h;rcases ho.2 with ⟨h0,_⟩|⟨g,cap2,cur,rfl,_,_,hn2,hm2,_⟩
 ·exact absurd h0 hne
 ·exact⟨_,rfl,⟨_,cap2,rfl,hn2,hm2,hlen,hsz,(fun h=>by cases h),.inr ⟨g,0,rfl,⟨(ownA_lt ho).1,(ownA_lt ho).2⟩,ownA_cell ho,fun h=>by cases h⟩⟩,hb⟩
end Go.Proofs.YtdolgmmldncfkaaGreatDoor.TLend
namespace Go.Proofs.YtdolgmmldncfkaaGreatDoor.TCopy
open Go.RowKit TBase TLend
def Copies (m:Nat):Prop:=∀ (v:Value) (c:T) (w:World),In false All w m v c ->
  Calls prog 22 #[v] w fun e w'=>∃ u,e=.returned u/\In false (Rg w.heap.size w'.heap.size) w' m u c/\Below w.heap.size w w'
theorem copyTs_of (m:Nat) (hm:Copies m) (v:Value) (l:List T) (w:World) (h:InL false All w m v l) :
  Calls prog 11 #[v] w fun e w'=>∃ u,e=.returned u/\InL false (Rg w.heap.size w'.heap.size) w' m u l/\Below w.heap.size w w':=by
 obtain⟨i0,hi,hz0,hz1,hz2⟩:=info_parts infoT;obtain⟨a,cap,rfl,hlc,hcm,hlen,hnil,hL⟩:=h;go_enter func11,ntmps11;go_wp2_with fail
 go_loopw [3,4] (fun out i wr=>∃ (q:Nat) (us:List Value),q<=l.length/\us.length=q/\i=.int .i64 q/\OwnV wr w.heap.size out us /\
   (∀ j (h:j<us.length) (h':j<l.length),In false (El w.heap.size wr.heap.size out) wr m us[j] l[j])/\Below w.heap.size w wr) (fun _ i _=>l.length - (intOf i).toNat)
 case atStart=>exact⟨0,[],by omega,rfl,rfl,⟨World.ownsRow_nil _ _ _ _,fun x hx=>by cases hx⟩,fun j h=>by simp at h,Below.refl _ _⟩
 case round=>
  obtain⟨q,us,hq,hus,rfl,hown,hels,hb⟩:=hrel;have hsz:=hb.size;by_cases hlt:q<l.length
  ·obtain⟨g,o,u,rfl,-,hu,hin⟩:=elem_at hL hlt
   have hu:=four_below hu hb;have hin:=hin.below hb;obtain⟨v0,v1,v2,v3,rfl,d0,d1,d2,d3⟩:=hu;have c10:=hm _ _ wr hin
   have HH:Hid (∀ j (h:j<us.length) (h':j<l.length),In false (El w.heap.size wr.heap.size u3) wr m us[j] l[j]):=hels;have Hus:Hid (us.length=q):=hus;have Hown:Hid (OwnV wr w.heap.size u3 us):=hown;have hrow:=hown.1;have hlen2:us.length=q:=hus;clear hels hin hus hown;go_wp2_with (first
    | (go_at_call 22;refine c10.mono ?_;rintro e w1 ⟨u,rfl,hin1,b1⟩;obtain⟨x0,x1,x2,x3,rfl,hone⟩:=hin1.four;have hrow1:=World.ownsRow.alloc (own_below hrow b1) (.cells #[x0,x1,x2,x3] 47);have hs1:=b1.size)
    | (at_builtin;refine wpList_append_own_at _ rfl _ _ 30 rfl w.heap.size 47 i0 (.agg #[.string ⟨#[]⟩,.string ⟨#[]⟩,.slice none 0 0,.slice none 0 0]) 4 80 underlying30 hi hz0 hz1 hz2 rfl (by decide) _ _ _ rfl hrow1 ⟨w1.heap.size,0,none⟩ 1 1 [x0,x1,x2,x3] rfl rfl (new_cells w1 _ 47) hone (by unfold maxLen;omega) (by omega) (by simp;omega) ?_))
   intro v' w2 hown' hgrow _ hat;have hels2:=els_step HH.out Hus.out hlt Hown.out b1 hin1 hsz _ hgrow hat;have hb3:=((hb.trans (b1.mono hsz)).alloc (by omega) (.cells #[x0,x1,x2,x3] 47)).grown hgrow (by simp;omega) (fun k hk=>(World.ownsRow.lt hrow k hk).1);have ho2:OwnV w2 w.heap.size v' (us ++ [.agg #[x0,x1,x2,x3]]):=by
    refine⟨?_,fours_snoc Hown.out.2 ⟨_,_,_,_,rfl,hone⟩⟩;rw[flat_append,List.length_append,hlen2];exact hown'
   have hlen3:(us ++ [Value.agg #[x0,x1,x2,x3]]).length=q+1:=by simp [hlen2]
   obtain⟨us2,hus2⟩ : ∃ us2,us ++ [Value.agg #[x0,x1,x2,x3]]=us2:=⟨_,rfl⟩;rw[hus2] at hels2 ho2 hlen3;have H2:Hid (∀ j (h:j<us2.length) (h':j<l.length),In false (El w.heap.size w2.heap.size v') w2 m us2[j] l[j]):=fun j h h'=>hels2 j h h'
   clear hown' hgrow hat hrow hrow1 Hown HH Hus hels2 hus2 hin1 hone c10;go_wp2_with fail
   go_roundw
   case rel=>exact⟨q+1,us2,by omega,hlen3,by go_num,ho2,H2.out,hb3⟩
   case measure=>simp only [intOf];omega
  ·obtain rfl:q=l.length:=by omega
   have hnlt:decide ((l.length:Int)<(l.length:Int))=false:=by simp
   have HH:Hid (∀ j (h:j<us.length) (h':j<l.length),In false (El w.heap.size wr.heap.size u3) wr m us[j] l[j]):=hels;have Hown:Hid (OwnV wr w.heap.size u3 us):=hown;have Hus:Hid (us.length=l.length):=hus;clear hels hus hown;go_wp2_with fail
   go_ret
   have hus:=Hus.out;have ho2:=Hown.out;rcases ho2.1.2 with ⟨h0,h1⟩|⟨g,cap2,cur,rfl,_,_,hn2,hm2,_⟩
   ·have hl0:l=[]:=List.eq_nil_of_length_eq_zero (by omega)
    subst hl0;exact⟨_,rfl,⟨none,0,h0,by simp,by simp,by simp,fun _=>rfl,.inl ⟨rfl,rfl⟩⟩,hb⟩
   ·have ho3:=ho2
    rw[hus] at ho3;refine⟨_,rfl,?_,hb⟩;try rw[hus]
    refine⟨some ⟨g,0,none⟩,cap2,rfl,by omega,hm2,hlen,(fun h=>by cases h),.inr ⟨g,0,rfl,⟨(ownV_lt ho2).1,(ownV_lt ho2).2⟩,?_,fun h=>by cases h⟩⟩;intro j hj;exact⟨_,ownV_four ho2 j (by omega),(HH.out j (by omega) hj).weak (fun b hS=>⟨hS.1,hS.2.1⟩) false id m (Nat.le_refl _)⟩
theorem copyT_of (m:Nat) (hm:∀ (v:Value) (l:List T) (w:World),InL false All w m v l ->
   Calls prog 11 #[v] w fun e w'=>∃ u,e=.returned u/\InL false (Rg w.heap.size w'.heap.size) w' m u l/\Below w.heap.size w w'):Copies (m+1):=by
 intro v c w h;obtain⟨g,s,n,l⟩:=c;rw[in_iff] at h;obtain⟨nv,lv,rfl,hg,hs,hn,hl⟩:=h;obtain⟨W0,hW0⟩ : ∃ W0,(w.alloc (.cells #[.string g,.string s,nv,lv] 47)).alloc (.cells #[.string ⟨#[]⟩,.string ⟨#[]⟩,.slice none 0 0,.slice none 0 0] 47)=W0:=⟨_,rfl⟩;have hb0:Below w.heap.size w W0:=by rw[<- hW0];exact ((Below.refl _ w).alloc (Nat.le_refl _) _).alloc (by simp) _
 have hsz0:W0.heap.size=w.heap.size+2:=by rw[<- hW0];simp
 have hx0:W0.heap[w.heap.size]? = some (.cells #[.string g,.string s,nv,lv] 47):=by
  rw[<- hW0,Below.heap_alloc _ _ _ (by simp),heap_alloc_new]
 have hx1:W0.heap[w.heap.size+1]? = some (.cells #[.string ⟨#[]⟩,.string ⟨#[]⟩,.slice none 0 0,.slice none 0 0] 47):=by
  have:=heap_alloc_new (w.alloc (.cells #[.string g,.string s,nv,lv] 47)) (.cells #[.string ⟨#[]⟩,.string ⟨#[]⟩,.slice none 0 0,.slice none 0 0] 47);rwa [hW0,World.size_alloc] at this
 have c34:=copyAx_c nv n W0 (hn.below hb0);obtain⟨-,-,e2,-⟩:=four_box hx0;go_enter func22,ntmps22;go_wp2_with fail
 refine c34.mono ?_;rintro e w1 ⟨nu,rfl,ht1,b1⟩;have hy0:=(b1.block w.heap.size (by omega)).trans hx0;have hy1:=(b1.block (w.heap.size+1) (by omega)).trans hx1;clear c34 hx0 hx1 hW0;obtain⟨d0,d1,d2,d3⟩:=four_box hy0;have f2:=frozen_box hy0 2;have hs1:=b1.size;obtain⟨W1,hW1⟩ : ∃ W1,w1.setCell ⟨w.heap.size,2,none⟩ nu=W1:=⟨_,rfl⟩;have hz0:W1.heap[w.heap.size]? = some (.cells #[.string g,.string s,nu,lv] 47 (0,0)):=by rw[<- hW1,block_set hy0];rfl
 have hz1:W1.heap[w.heap.size+1]? = some (.cells #[.string ⟨#[]⟩,.string ⟨#[]⟩,.slice none 0 0,.slice none 0 0] 47 (0,0)):=by rw[<- hW1,Below.heap_setCell _ _ _ _ (by simp)];exact hy1
 have hsz1:W1.heap.size=w1.heap.size:=by rw[<- hW1];simp [World.setCell]
 have hb1:Below w.heap.size w W1:=by rw[<- hW1];exact (hb0.trans (b1.mono (by omega))).setCell (p:=⟨w.heap.size,2,none⟩) (Nat.le_refl _) _
 have ht2:Ax false (Rg W0.heap.size w1.heap.size) W1 nu n:=ht1.keep fun b hS hb=>by rw[<- hW1];exact Below.heap_setCell _ _ _ _ (by have:=hS.1;simp;omega)
 have c35:=hm lv l W1 (hl.below hb1);obtain⟨an,cn,rfl,-⟩:=ht1;clear hy0 hy1;obtain⟨-,-,-,k3⟩:=four_box hz0;go_wp2_with fail
 refine c35.mono ?_;rintro e w2 ⟨lu,rfl,hl2,b2⟩;have hy0:=(b2.block w.heap.size (by omega)).trans hz0;have hy1:=(b2.block (w.heap.size+1) (by omega)).trans hz1;clear c35 hz0 hz1 hW1 d0 d1 d2 d3 f2 k3;have f3:=frozen_box hy0 3;have hs2:=b2.size;obtain⟨d0,d1,d2,d3⟩:=four_box hy0;obtain⟨W2,hW2⟩ : ∃ W2,w2.setCell ⟨w.heap.size,3,none⟩ lu=W2:=⟨_,rfl⟩;have hz0:W2.heap[w.heap.size]? = some (.cells #[.string g,.string s,.slice an n.length cn,lu] 47 (0,0)):=by rw[<- hW2,block_set hy0];rfl
 have hz1:W2.heap[w.heap.size+1]? = some (.cells #[.string ⟨#[]⟩,.string ⟨#[]⟩,.slice none 0 0,.slice none 0 0] 47 (0,0)):=by rw[<- hW2,Below.heap_setCell _ _ _ _ (by simp)];exact hy1
 have hsz2:W2.heap.size=w2.heap.size:=by rw[<- hW2];simp [World.setCell]
 have hb2:Below w.heap.size w W2:=by rw[<- hW2];exact (hb1.trans (b2.mono (by omega))).setCell (p:=⟨w.heap.size,3,none⟩) (Nat.le_refl _) _
 have ht3:Ax false (Rg W0.heap.size w1.heap.size) W2 (.slice an n.length cn) n:=ht2.keep fun b hS hb=>by
  rw[<- hW2,Below.heap_setCell _ _ _ _ (by have:=hS.1;simp;omega)];exact b2.block b hb
 have hl3:InL false (Rg W1.heap.size w2.heap.size) W2 m lu l:=hl2.keep fun b hS hb=>by rw[<- hW2];exact Below.heap_setCell _ _ _ _ (by have:=hS.1;simp;omega)
 obtain⟨al,cl,rfl,-⟩:=hl2;clear ht2 hy0 hy1;obtain⟨k0,k1,k2,k3⟩:=four_box hz0;obtain⟨e0,e1,e2,e3⟩:=four_box hz1;have g0:=frozen_box hz1 0;have g1:=frozen_box hz1 1;have g2:=frozen_box hz1 2;have g3:=frozen_box hz1 3;go_wp2_with fail
 obtain⟨W3,hW3⟩ : ∃ W3,((((W2.setCell ⟨w.heap.size+1,0,none⟩ (.string g)).setCell ⟨w.heap.size+1,1,none⟩ (.string s)).setCell
  ⟨w.heap.size+1,2,none⟩ (.slice an n.length cn)).setCell ⟨w.heap.size+1,3,none⟩ (.slice al l.length cl))=W3:=⟨_,rfl⟩
 rw[hW3];obtain⟨q1,q2,q3,q4⟩:=set4 _ _ _ _ hz1 hW3;refine bodyPost_ret (results_cell_row rfl _ W3 (w.heap.size+1) 47 _ (0,0) _ rfl q1 underlying47 rfl (by kernel_rfl)) rfl ?_;refine⟨_,rfl,?_,q4 _ _ (by omega) hb2⟩;rw[in_iff];refine⟨_,_,rfl,hg,hs,?_,?_⟩
 ·exact (ht3.keep fun b hS hb=>q2 b (by have:=hS.1;omega)).weak (fun b hS=>⟨by have:=hS.1;omega,by have:=hS.2;omega⟩) false id
 ·exact (hl3.keep fun b hS hb=>q2 b (by have:=hS.1;omega)).weak (fun b hS=>⟨by have:=hS.1;omega,by have:=hS.2;omega⟩) false id m (Nat.le_refl _)
theorem copyTAll:∀ m,Copies m:=by
 intro m;induction m with
 | zero=>intro v c w h;rw[In] at h;exact h.elim
 | succ m ih=>exact copyT_of m (copyTs_of m ih)
end Go.Proofs.YtdolgmmldncfkaaGreatDoor.TCopy

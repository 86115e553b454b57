import Derived.Test.YtdolgmmldncfkaaGreatDoorPJ04
import Derived.Test.YtdolgmmldncfkaaGreatDoorPJ20
open Go.Proofs.Tryz
set_option linter.unusedVariables false
set_option maxRecDepth 20000
set_option maxHeartbeats 6400000
namespace Go.Proofs.YtdolgmmldncfkaaGreatDoor.GBe
open Go.RowKit TBase GBu
open GEn (ptr)
open VSm (pkE)
structure Fm (B Bb:Nat) (X Y:Option Nat) (w w':World):Prop where
  below:∀ n,n<=B->n<=Bb->(∀ x,X=some x->n<=x)->(∀ y,Y=some y->n<=y)->Below n w w'
  size:w.heap.size<=w'.heap.size
  other:∀ b,b<w.heap.size->b≠B->b≠Bb->some b≠X->some b≠Y->w'.heap[b]? = w.heap[b]?
theorem upto_all {P:Nat->Nat->Prop} (hm:∀ m m' j,m<=m'->P m j->P m' j):∀ n,(∀ j,j<n->∃ m,P m j)->∃ M,∀ j,j<n->P M j
  | 0,_=>⟨0,fun j hj=>absurd hj (Nat.not_lt_zero j)⟩
  | n+1,h=>by
    obtain⟨M,hM⟩:=upto_all hm n fun j hj=>h j (by omega)
    obtain⟨m,hm'⟩:=h n (by omega);refine⟨M+m,fun j hj=>?_⟩;by_cases e:j=n
    · subst e;exact hm m _ j (by omega) hm'
    · exact hm M _ j (by omega) (hM j (by omega))
theorem bt_inL {lo0 lo:Nat} {w:World} {X:Option Nat} {tv tv2:Value} {ks:List T} {Bb:Nat} (h2:Bt lo0 w Bb X tv2 ks) (hlo:lo<=lo0) (htv:∀ g,tv.ownBlock=some g->g<lo0) (hn:ks.length<=65536):∃ m,InL false (Es lo w.heap.size X tv) w m tv2 ks:=by
  obtain⟨us,how,hus,hel⟩:=h2.own;have hwk:∀ b,Es lo0 w.heap.size X tv2 b->Es lo w.heap.size X tv b:=fun b hb=>⟨by have:=hb.1;omega,hb.2.1,hb.2.2.1,fun e=>by have:=htv b e;have:=hb.1;omega⟩
  obtain⟨M,hM⟩:=upto_all (P:=fun m j=>∀ (h:j<us.length) (h':j<ks.length),TBase.In false (Es lo w.heap.size X tv) w m us[j] ks[j]) (fun m m' j hm h h1 h2=>(h h1 h2).weak (fun _ hb=>hb) false id m' hm) us.length (fun j hj=>by
    obtain⟨m,hi⟩:=hel j hj (by omega);exact⟨m,fun _ _=>hi.weak hwk false id m (Nat.le_refl _)⟩)
  refine⟨M,?_⟩;rcases how.1.2 with ⟨rfl,e⟩|⟨g,cap,cur,rfl,h2',h3,h4,h5,h6⟩
  · obtain rfl:ks=[]:=List.eq_nil_of_length_eq_zero (by omega)
    exact⟨none,0,rfl,by simp,by omega,by simp,fun _=>rfl,.inl ⟨rfl,rfl⟩⟩
  · have hlt:=World.ownsRow.lt how.1 g rfl
    refine⟨some ⟨g,0,none⟩,cap,by rw[hus],by omega,by unfold maxLen at h5;omega,by omega,fun e=>by simp at e,?_⟩;refine .inr ⟨g,0,rfl,⟨by omega,hlt.2,h2.xne g rfl,fun e=>by have:=htv g e;omega⟩,fun j hj=>⟨us[j],?_,hM j (by omega) (by omega) hj⟩,fun e=>by cases e⟩;exact ownV_four how j (by omega)
def KR (R:Int->World->Option Nat->Prop) (lo0 B Bb:Nat) (X:Option Nat) (w:World) (A:Except Nat (List T × Int)) (e:Ending) (w':World):Prop:=match A with
  | .ok a=>a.1.length<=65536/\(∃ v,e=.returned v)/\Fm B Bb X none w w'/\∃ X' tv2,(X'=X \/ ∃ x,X'=some x/\w.heap.size<=x)/\(∀ x,X'=some x->x<w'.heap.size)/\R a.2 w' X'/\Bt lo0 w' Bb X' tv2 a.1
  | .error q=>e=.panicked (pkE q)/\Fm B Bb X none w w'
def ER (R:Int->World->Option Nat->Prop) (lo B Bb:Nat) (X:Option Nat) (tv:Value) (F:List T) (w:World) (A:Except Nat (T × Int)) (e:Ending) (w':World):Prop:=match A with
  | .ok a=>(∃ v,e=.returned v)/\Fm B Bb X tv.ownBlock w w'/\∃ X' tv',(X'=X \/ ∃ x,X'=some x/\w.heap.size<=x)/\(∀ x,X'=some x->x<w'.heap.size)/\R a.2 w' X'/\Bt lo w' Bb X' tv' (F ++ [a.1])/\(tv'.ownBlock=tv.ownBlock \/ ∃ g,tv'.ownBlock=some g/\w.heap.size<=g)
  | .error q=>e=.panicked (pkE q)/\Fm B Bb X tv.ownBlock w w'
theorem tree_put {lo:Nat} {w W1 W W6:World} {Bb g cap:Nat} {X:Option Nat} {tv bv x0 x1 x2 x3:Value} {F:List T} {us:List Value} {t:T} (hlob:Bb<lo) (hhi:lo<=w.heap.size) (hxne:∀ g,tv.ownBlock=some g->some g≠X) (how:OwnV w lo tv us) (hus:us.length=F.length) (hel:∀ j (h:j<us.length) (h':j<F.length),∃ m,TBase.In false (Es lo w.heap.size X tv) w m us[j] F[j])
    (hX:∀ x,X=some x->x<w.heap.size) (hbv:w.heap[Bb]? = some (.cells #[bv] 57 (0,0))) (b1:Below w.heap.size w W1) (h3:W.ownsRow lo 47 4 (.slice (some ⟨g,0,none⟩) (us.length+1) cap) (us.length+1) (flat us ++ [x0,x1,x2,x3])) (h4:W1.grownBy W tv.ownBlock) (h5:some g=tv.ownBlock\/g=W1.heap.size) (hone:∀ x ∈ [x0,x1,x2,x3],x.oneCell'=true)
    (hW6:W.setCell ⟨Bb,0,none⟩ (.slice (some ⟨g,0,none⟩) (us.length+1) cap)=W6) (hin:∃ m,TBase.In false (Es lo w.heap.size X tv) w m (.agg #[x0,x1,x2,x3]) t) :
    Bt lo W6 Bb X (.slice (some ⟨g,0,none⟩) (us.length+1) cap) (F ++ [t])/\Kb Bb tv w W6/\(some g=tv.ownBlock\/w.heap.size<=g):=by
  have hglt:=World.ownsRow.lt h3 g rfl;have hs1:=b1.size;have hs4:=h4.size;have hne:Bb≠g:=by omega
  have h6o:∀ b,b≠Bb->W6.heap[b]? = W.heap[b]?:=by
    intro b hb;rw[<- hW6,Below.heap_setCell _ _ _ _ (by simpa using hb)]
  have s6:W6.heap.size=W.heap.size:=by rw[<- hW6,World.size_setCell]
  have hoth:∀ b,b<w.heap.size->some b≠tv.ownBlock->b≠Bb->W6.heap[b]? = w.heap[b]?:=by
    intro b hb h1 h2;rw[h6o b h2,h4.block b (by omega) h1,b1.block b hb]
  have hat:some g=tv.ownBlock\/w.heap.size<=g:=by
    rcases h5 with e|e
    · exact .inl e
    · exact .inr (by omega)
  have hown:OwnV W6 lo (.slice (some ⟨g,0,none⟩) (us.length+1) cap) (us ++ [.agg #[x0,x1,x2,x3]]):=by
    refine⟨?_,fours_snoc how.2 ⟨_,_,_,_,rfl,hone⟩⟩;rw[flat_append,List.length_append];exact Fresh.own_keep h3 fun q hq=>h6o q (by have:=(World.ownsRow.lt h3 q hq).1;omega)
  have hbox:W6.heap[Bb]? = some (.cells #[.slice (some ⟨g,0,none⟩) (us.length+1) cap] 57 (0,0)):=by
    have e5:W.heap[Bb]? = some (.cells #[bv] 57 (0,0)):=by
      rw[h4.block Bb (by omega) (fun e=>by have:=(World.ownsRow.lt how.1 Bb e.symm).1;omega),b1.block Bb (by omega),hbv]
    rw[<- hW6];exact TBase.block_set e5 _
  refine⟨bt_more hlob hhi hxne how hus hel hoth (by omega) hown ?_ ?_ hX hbox,⟨fun n hn=>?_,by omega,fun b h1 h2 h3=>hoth b h1 h3 h2⟩,hat⟩
  · obtain⟨m,hi⟩:=hin
    refine⟨m,(hi.keep (w':=W6) (fun b hb hb2=>hoth b hb2 (fun e=>hb.2.2.2 e.symm) (by have:=hb.1;omega))).weak ?_ false id m (Nat.le_refl _)⟩;intro b hb;refine⟨hb.1,by have:=hb.2.1;omega,hb.2.2.1,?_⟩;intro e;have e:=Option.some.inj e;subst e;rcases hat with k|k
    · exact hb.2.2.2 k.symm
    · exact absurd hb.2.1 (Nat.not_lt.2 k)
  · rcases hat with k|k
    · exact .inl k
    · exact .inr ⟨g,rfl,k⟩
  · have hb:Below n w W:=(b1.mono (by omega)).grown h4 (by omega) (fun k hk=>by have:=(World.ownsRow.lt how.1 k hk).1;omega)
    rw[<- hW6];exact hb.setCell (by simp;omega) _
theorem elem_c {lo:Nat} {w:World} {B Bb:Nat} {X:Option Nat} {tv:Value} {F:List T} {num:Int} {tag:ByteArray} {av:Value} {n:List (ByteArray × ByteArray)} {caps:Array Value} {A:Except Nat (List T × Int)} {R:Int->World->Option Nat->Prop} (hR:∀ r W W' X',R r W X'->(∀ g,tv.ownBlock=some g->g<W.heap.size/\some g≠X')->W.heap.size<=W'.heap.size->(∀ n,n<=Bb->Below n W W')->(∀ b,b<W.heap.size->b≠Bb->some b≠tv.ownBlock->W'.heap[b]? = W.heap[b]?)->R r W' X') (h:Bt lo w Bb X tv F) (hX:∀ x,X=some x->x<w.heap.size) (hB:B<lo) (hF:F.length<=65536) (hs:tag.size<=140737488351232) (ha:Ax false (Es lo w.heap.size X tv) w av n)
    (hk:Calls prog 77 caps (w.setCell ⟨Bb,0,none⟩ (.slice none 0 0)) fun e w'=>KR R w.heap.size B Bb X (w.setCell ⟨Bb,0,none⟩ (.slice none 0 0)) A e w') :
    Calls prog 200 #[ptr Bb,.int .i64 num,.string tag,av,.func (.func 77) #[] caps] w fun e w'=>ER R lo B Bb X tv F w (VPure.bnd A fun a=>.ok (T.mk tag ⟨#[]⟩ n a.1,a.2)) e w':=by
  obtain⟨us,how,hus,hel⟩:=h.own;obtain⟨a,cap,rfl,hc1,hc2⟩:=bt_shape how;have HA:=hid ha;obtain⟨aa,ac,rfl,-⟩:=ha;have k0:w.cell? ⟨Bb,0,none⟩=some (.slice a us.length cap):=by simp [World.cell?, h.box]
  have f0:=TBase.frozen_box h.box 0;have hlo:=h.hi;have hlob:=h.lob;have hlt:=(Array.getElem?_eq_some_iff.1 h.box).1;obtain⟨W1,hW1⟩ : ∃ W,w.setCell ⟨Bb,0,none⟩ (.slice none 0 0)=W:=⟨_,rfl⟩;rw[hW1] at hk;have s1:W1.heap.size=w.heap.size:=by rw[<- hW1,World.size_setCell]
  have HO1:Hid (∀ b,b≠Bb->W1.heap[b]? = w.heap[b]?):=fun b hb=>by rw[<- hW1,Below.heap_setCell _ _ _ _ (by simpa using hb)]
  have HB1:Hid (∀ n,n<=Bb->Below n w W1):=fun n hn=>by rw[<- hW1];exact (Below.refl n w).setCell (by simpa using hn) _
  have HH:=hid h;have hul:us.length<=65536:=by omega
  have HU:=hid hus;have HW:=hid how;have HE:=hid hel;have HX:=hid hX;have HR:Hid _:=hR;clear h hus hF how hel hX hR;cases A with
  | error q=>
    go_enter func200,ntmps200;go_wp2_with (first
      | (go_at_call 77;refine hk.mono ?_;rintro e W2 ⟨rfl,hf⟩))
    refine⟨rfl,rfl,fun n h1 h2 h3 h4=>(HB1.out n h2).trans (hf.below n h1 h2 h3 (fun y e=>by cases e)),by have:=hf.size;omega,fun b h1 h2 h3 h4 h5=>?_⟩;rw[hf.other b (by omega) h2 h3 h4 (by simp),HO1.out b h3]
  | ok aks=>
    obtain⟨ks,rm⟩:=aks;have hone:∀ x ∈ [Value.string tag,.string ⟨#[]⟩,.slice aa n.length ac],x.oneCell'=true:=by simp [Value.oneCell']
    go_enter func200,ntmps200;go_wp2_with (first
      | (at_builtin;refine wpList_plain rfl fun _ hK=>wp_tree (news:=[.string tag,.string ⟨#[]⟩,.slice aa n.length ac,.slice a2 us2.length cap2]) (m:=1) (n:=us.length) _ _ rfl HR3.out rfl HN3.out HZ3.out (by omega) (by omega) rfl rfl ?_)
      | (go_at_call 77;refine hk.mono ?_;rintro e W2 ⟨hkn,⟨v9,rfl⟩,hf,X2,tv2,hx2,hx3,hrr,hb2⟩;have HX2:Hid _:=hx2;have HX3:Hid _:=hx3;have HRR:Hid _:=hrr;obtain⟨us2,how2,hus2,-⟩:=hb2.own;obtain⟨a2,cap2,rfl,hd1,hd2⟩:=bt_shape how2;have HF2:Hid _:=hf;have HB2:Hid _:=hb2;have HN2:Hid (us2.length=ks.length):=hus2;have HKN:Hid (ks.length<=65536):=hkn
         have k2:W2.cell? ⟨Bb,0,none⟩=some (.slice a2 us2.length cap2):=by simp [World.cell?, hb2.box]
         have s2:w.heap.size<=W2.heap.size:=by have:=hf.size;omega
         have HK2:Hid (∀ b,lo<=b->b<w.heap.size->some b≠X->W2.heap[b]? = w.heap[b]?):=fun b h1 h2 h3=>by rw[hf.other b (by omega) (by omega) (by omega) h3 (by simp),HO1.out b (by omega)]
         have HR3:Hid ((W2.alloc (.cells #[.string tag,.string ⟨#[]⟩,.slice aa n.length ac,.slice a2 us2.length cap2] 47)).ownsRow lo 47 4 (.slice a us.length cap) us.length (flat us)):=World.ownsRow.alloc (Fresh.own_keep HW.out.1 (fun g hg=>HK2.out g (World.ownsRow.lt HW.out.1 g hg).1 (World.ownsRow.lt HW.out.1 g hg).2 (HH.out.xne g hg))) _;have HN3:Hid (∀ j u,([.string tag,.string ⟨#[]⟩,.slice aa n.length ac,.slice a2 us2.length cap2] : List Value)[j]? = some u->(W2.alloc (.cells #[.string tag,.string ⟨#[]⟩,.slice aa n.length ac,.slice a2 us2.length cap2] 47)).cell? ((⟨W2.heap.size,0,none⟩ : Addr).add j)=some u):=new_cells W2 [.string tag,.string ⟨#[]⟩,.slice aa n.length ac,.slice a2 us2.length cap2] 47;have hz3:∀ u ∈ ([.string tag,.string ⟨#[]⟩,.slice aa n.length ac,.slice a2 us2.length cap2] : List Value),u.oneCell'=true:=by simp [Value.oneCell']
         have HZ3:Hid (∀ u ∈ ([.string tag,.string ⟨#[]⟩,.slice aa n.length ac,.slice a2 us2.length cap2] : List Value),u.oneCell'=true):=hz3;have hs3:(W2.alloc (.cells #[.string tag,.string ⟨#[]⟩,.slice aa n.length ac,.slice a2 us2.length cap2] 47)).heap.size=W2.heap.size+1:=by simp
         clear hf hb2 hus2 hkn how2 hz3 hx2 hx3 hrr))
    intro v' W h3 h4 h5;refine hK _ _ ?_;clear hK;obtain⟨g,cap3,rfl⟩ : ∃ g cap3,v'=.slice (some ⟨g,0,none⟩) (us.length+1) cap3:=by
      rcases h3.2 with ⟨_,e⟩|⟨g,cap3,cur,e,_⟩
      · omega
      · exact⟨g,cap3,e⟩
    have hbW:W.heap[Bb]? = some (.cells #[.slice a2 us2.length cap2] 57 (0,0)):=by
      rw[h4.block Bb (by omega) (fun e=>by have:=(World.ownsRow.lt HW.out.1 Bb e.symm).1;omega),Below.heap_alloc _ _ _ (by omega),HB2.out.box]
    have kW:W.cell? ⟨Bb,0,none⟩=some (.slice a2 us2.length cap2):=by simp [World.cell?, hbW]
    have fW:=TBase.frozen_box hbW 0;have H3:=hid h3;have H4:=hid h4;have H5:=hid h5;clear h3 h4 h5 hbW hs3;go_wp2_with fail
    go_end0
    have hnX:∀ b,b<w.heap.size->some b≠X->some b≠X2:=by
      intro b h1 h2 e;rcases HX2.out with k|⟨x,k,hx⟩
      · exact h2 (e.trans k)
      · rw[k] at e
        have:=Option.some.inj e;omega
    have hS:∀ b,Es lo w.heap.size X (.slice a us.length cap) b->Es lo W2.heap.size X2 (.slice a us.length cap) b:=fun b hb=>⟨hb.1,Nat.lt_of_lt_of_le hb.2.1 s2,hnX b hb.2.1 hb.2.2.1,hb.2.2.2⟩
    have hkp:Keep (Es lo w.heap.size X (.slice a us.length cap)) w W2:=fun b hb _=>HK2.out b hb.1 hb.2.1 hb.2.2.1
    have hel2:∀ j (h:j<us.length) (h':j<F.length),∃ m,TBase.In false (Es lo W2.heap.size X2 (.slice a us.length cap)) W2 m us[j] F[j]:=by
      intro j h1 h2;obtain⟨m,hi⟩:=HE.out j h1 h2;exact⟨m,(hi.keep hkp).weak hS false id m (Nat.le_refl _)⟩
    have hin:∃ m,TBase.In false (Es lo W2.heap.size X2 (.slice a us.length cap)) W2 m (.agg #[.string tag,.string ⟨#[]⟩,.slice aa n.length ac,.slice a2 us2.length cap2]) (T.mk tag ⟨#[]⟩ n ks):=by
      obtain⟨m,hL⟩:=bt_inL (lo:=lo) (tv:=.slice a us.length cap) HB2.out hlo (fun g hg=>(World.ownsRow.lt HW.out.1 g hg).2) HKN.out;refine⟨m+1,?_⟩;rw[in_iff];exact⟨_,_,rfl,hs,by simp [ByteArray.size],(HA.out.keep hkp).weak hS false id,hL⟩
    obtain⟨r1,r2,r3⟩:=tree_put (w:=W2) (X:=X2) (tv:=.slice a us.length cap) (F:=F) (t:=T.mk tag ⟨#[]⟩ n ks) hlob (by omega) (fun g hg=>hnX g (World.ownsRow.lt HW.out.1 g hg).2 (HH.out.xne g hg)) ⟨Fresh.own_keep HW.out.1 (fun g hg=>HK2.out g (World.ownsRow.lt HW.out.1 g hg).1 (World.ownsRow.lt HW.out.1 g hg).2 (HH.out.xne g hg)),HW.out.2⟩ HU.out hel2 HX3.out HB2.out.box ((Below.refl _ W2).alloc (Nat.le_refl _) _) H3.out H4.out (H5.out.imp (fun e=>e) (fun e=>by have:=Option.some.inj e;simpa using this)) HZ3.out rfl hin
    refine⟨⟨_,rfl⟩,⟨fun n h1 h2 h3 h4=>((HB1.out n h2).trans (HF2.out.below n h1 h2 h3 (fun y e=>by cases e))).trans (r2.below n h2),by have:=r2.size;omega,fun b h1 h2 h3 h4 h5=>?_⟩,X2,_,HX2.out.imp (fun e=>e) (fun ⟨x,e,hx⟩=>⟨x,e,by omega⟩),fun x e=>Nat.lt_of_lt_of_le (HX3.out x e) r2.size,HR.out _ _ _ _ HRR.out (fun g hg=>⟨Nat.lt_of_lt_of_le (World.ownsRow.lt HW.out.1 g hg).2 s2,hnX g (World.ownsRow.lt HW.out.1 g hg).2 (HH.out.xne g hg)⟩) r2.size (fun n hn=>r2.below n hn) (fun b h1 h2 h3=>r2.other b h1 h2 h3),r1,?_⟩
    · rw[r2.other b (by omega) h3 h5,HF2.out.other b (by omega) h2 h3 h4 (by simp),HO1.out b h3]
    · rcases r3 with k|k
      · exact .inl k
      · exact .inr ⟨g,rfl,by omega⟩
end Go.Proofs.YtdolgmmldncfkaaGreatDoor.GBe
namespace Go.Proofs.YtdolgmmldncfkaaGreatDoor.GNs
open Go.RowKit Base GPl GEn GAs GTx GBu
open VPure hiding evL
open TBase (T)
open KBase (Pt Fld Co RP RF)
abbrev mkr (Bb:Nat):Value:=.iface 59 (ptr Bb)
abbrev Sz:=Nat × List Int × Nat
abbrev szv (z:Sz):Value:=.slice (some ⟨z.1,0,none⟩) z.2.1.length z.2.2
def So (K m:Nat) (w:World) (Pv:Value) (L:List C):Prop:=∃ us,Base.OwnV w K Pv us/\us.length=L.length/\∀ j (h:j<us.length) (h':j<L.length),Base.In false (fun b=>b<K) w m us[j] L[j]
theorem so_keep {K m:Nat} {w w':World} {Pv:Value} {L:List C} (h:So K m w Pv L) (hk:∀ b,b<w.heap.size->(b<K\/Pv.ownBlock=some b)->w'.heap[b]? = w.heap[b]?):So K m w' Pv L:=by
  obtain⟨us,h1,h2,h3⟩:=h;exact⟨us,⟨Fresh.own_keep h1.1 (fun g hg=>hk g (World.ownsRow.lt h1.1 g hg).2 (.inr hg)),h1.2⟩,h2,fun j a b=>(h3 j a b).keep (fun b hb hl=>hk b hl (.inl hb))⟩
structure Wr (K m:Nat) (w:World) (B Bb:Nat) (Pv:Value) (sv:Sz) (r:Int) (L:List C):Prop where
  box:w.heap[B]? = some (.cells (wk Pv (mkr Bb) (szv sv) r) 82 (0,0))
  lB:K<=B
  lb:K<=Bb
  ne:B≠Bb
  wfs:∀ (j:Int) c,rh L j=some c->wf c
  tk:∀ W',Below K w W'->Digits.Tab W'
  sk:Sk K (m+1) w Pv L
  xb:∀ x,Pv.ownBlock=some x->K<=x/\x<w.heap.size/\x≠B/\x≠Bb
  zb:sv.1<w.heap.size/\sv.1≠B/\sv.1≠Bb/\Pv.ownBlock≠some sv.1
  zc:∀ j (h:j<sv.2.1.length),w.cell? ⟨sv.1,j,none⟩=some (.int .i64 sv.2.1[j])
  so:So K (m+1) w Pv L
theorem Wr.lt {K m:Nat} {w:World} {B Bb:Nat} {Pv:Value} {sv:Sz} {r:Int} {L:List C} (h:Wr K m w B Bb Pv sv r L):B<w.heap.size:=(Array.getElem?_eq_some_iff.1 h.box).1
theorem Wr.bs {K m:Nat} {w:World} {B Bb:Nat} {Pv:Value} {sv:Sz} {r:Int} {L:List C} (h:Wr K m w B Bb Pv sv r L):Bs K m w B Pv (mkr Bb) (szv sv) r L:=
  ⟨h.box,by have:=h.lt;have:=h.lB;omega,h.wfs,fun W hW=>h.tk W (hW.mono (by have:=h.lt;have:=h.lB;omega)),h.sk⟩
theorem sk_keep {K m:Nat} {w w':World} {Pv:Value} {L:List C} (h:Sk K m w Pv L) (hk:∀ b,b<w.heap.size->(b<K\/Pv.ownBlock=some b)->w'.heap[b]? = w.heap[b]?):Sk K m w' Pv L:=by
  obtain⟨a,cap,h1,h2,h3,h4,h5⟩:=h;refine⟨a,cap,h1,h2,h3,h4,fun j hj=>?_⟩;obtain⟨g,u,e,hu,hi⟩:=h5 j hj;subst e;subst h1;exact⟨g,u,rfl,Base.Keep.six (S:=fun b=>b=g) (fun b hb hl=>hk b hl (.inr (by rw[hb];rfl))) rfl hu,hi.keep (fun b hb hl=>hk b hl (.inl hb))⟩
theorem Wr.keep {K m:Nat} {w w':World} {B Bb:Nat} {Pv:Value} {sv:Sz} {r:Int} {L:List C} (h:Wr K m w B Bb Pv sv r L) (hs:w.heap.size<=w'.heap.size) (hb:Below K w w') (hB:w'.heap[B]? = w.heap[B]?) (hX:∀ b,b<w.heap.size->Pv.ownBlock=some b->w'.heap[b]? = w.heap[b]?) (hZ:w'.heap[sv.1]? = w.heap[sv.1]?):Wr K m w' B Bb Pv sv r L:=
  ⟨hB.trans h.box,h.lB,h.lb,h.ne,h.wfs,fun W hW=>h.tk W (hb.trans hW),sk_keep h.sk (fun b hl hc=>hc.elim (fun k=>hb.block b k) (fun k=>hX b hl k)),fun x hx=>⟨(h.xb x hx).1,Nat.lt_of_lt_of_le (h.xb x hx).2.1 hs,(h.xb x hx).2.2⟩,⟨Nat.lt_of_lt_of_le h.zb.1 hs,h.zb.2⟩,fun j hj=>(World.cell?_of_block (w:=w) hZ).trans (h.zc j hj),so_keep h.so (fun b hl hc=>hc.elim (fun k=>hb.block b k) (fun k=>hX b hl k))⟩
theorem Wr.below {K m:Nat} {w w':World} {B Bb:Nat} {Pv:Value} {sv:Sz} {r:Int} {L:List C} (h:Wr K m w B Bb Pv sv r L) (hb:Below w.heap.size w w'):Wr K m w' B Bb Pv sv r L:=
  h.keep hb.size (hb.mono (by have:=h.lt;have:=h.lB;omega)) (hb.block B h.lt) (fun b hl _=>hb.block b hl) (hb.block _ h.zb.1)
theorem Wr.room {K m:Nat} {w w':World} {B Bb:Nat} {Pv:Value} {sv:Sz} {r:Int} {L:List C} (h:Wr K m w B Bb Pv sv r L) (r':Int) (e:w.setCell ⟨B,3,none⟩ (.int .i64 r')=w'):Wr K m w' B Bb Pv sv r' L:=by
  have ho:∀ b,b≠B->w'.heap[b]? = w.heap[b]?:=fun b hb=>by rw[<- e,Below.heap_setCell _ _ _ _ (by simpa using hb)]
  have hs:w'.heap.size=w.heap.size:=by rw[<- e,World.size_setCell]
  have hb:Below K w w':=by rw[<- e];exact (Below.refl K w).setCell (by simpa using h.lB) _
  refine⟨?_,h.lB,h.lb,h.ne,h.wfs,fun W hW=>h.tk W (hb.trans hW),sk_keep h.sk (fun b hl hc=>hc.elim (fun k=>hb.block b k) (fun k=>ho b (h.xb b k).2.2.1)),fun x hx=>⟨(h.xb x hx).1,by rw[hs];exact (h.xb x hx).2.1,(h.xb x hx).2.2⟩,⟨by rw[hs];exact h.zb.1,h.zb.2⟩,fun j hj=>(World.cell?_of_block (w:=w) (ho sv.1 h.zb.2.1)).trans (h.zc j hj),so_keep h.so (fun b hl hc=>hc.elim (fun k=>hb.block b k) (fun k=>ho b (h.xb b k).2.2.1))⟩;rw[<- e];exact TBase.block_set h.box _
def Rs (K m B Bb:Nat) (sv:Sz) (L:List C) (r:Int) (w:World) (X:Option Nat):Prop:=∃ Pv,X=Pv.ownBlock/\Wr K m w B Bb Pv sv r L
theorem Rs.keep {K m B Bb lo:Nat} {sv:Sz} {tv:Value} {L:List C} {r:Int} {W W':World} {X:Option Nat} (h:Rs K m B Bb sv L r W X) (hlo:B<lo) (hzl:sv.1<lo) (ht:∀ g,tv.ownBlock=some g->lo<=g) (hx:∀ g,tv.ownBlock=some g->g<W.heap.size/\some g≠X) (hs:W.heap.size<=W'.heap.size) (hb:∀ n,n<=Bb->Below n W W') (ho:∀ b,b<W.heap.size->b≠Bb->some b≠tv.ownBlock->W'.heap[b]? = W.heap[b]?):Rs K m B Bb sv L r W' X:=by
  obtain⟨Pv,rfl,h⟩:=h;refine⟨Pv,rfl,h.keep hs (hb K h.lb) (ho B h.lt h.ne (fun e=>by have:=ht B e.symm;omega)) (fun b hl hP=>ho b hl (h.xb b hP).2.2.2 (fun e=>(hx b e.symm).2 hP.symm)) (ho _ h.zb.1 h.zb.2.2.1 (fun e=>by have:=ht _ e.symm;omega))⟩
theorem meth_t (n : Nat) (hn : prog.types.size + Made.depth = n) (v : Value) (w : World) : Sem.run prog (method n 59 v "Text") w = .ok (202, v) w := by
  subst hn;kernel_rfl
theorem meth_e (n : Nat) (hn : prog.types.size + Made.depth = n) (v : Value) (w : World) : Sem.run prog (method n 59 v "Element") w = .ok (200, v) w := by
  subst hn;kernel_rfl
theorem bt_keep {lo Bb:Nat} {w w':World} {X:Option Nat} {tv:Value} {F:List T} (h:Bt lo w Bb X tv F) (hs:w.heap.size<=w'.heap.size) (hb:w'.heap[Bb]? = w.heap[Bb]?) (ho:∀ b,lo<=b->b<w.heap.size->some b≠X->w'.heap[b]? = w.heap[b]?):Bt lo w' Bb X tv F:=by
  obtain⟨us,how,hus,hel⟩:=h.own;refine⟨hb.trans h.box,h.lob,Nat.le_trans h.hi hs,h.xne,us,⟨Fresh.own_keep how.1 (fun g hg=>ho g (World.ownsRow.lt how.1 g hg).1 (World.ownsRow.lt how.1 g hg).2 (h.xne g hg)),how.2⟩,hus,fun j h1 h2=>?_⟩;obtain⟨m,hi⟩:=hel j h1 h2;exact⟨m,(hi.keep (w':=w') (fun b hb _=>ho b hb.1 hb.2.1 hb.2.2.1)).weak (fun b hb=>⟨hb.1,Nat.lt_of_lt_of_le hb.2.1 hs,hb.2.2⟩) false id m (Nat.le_refl _)⟩
theorem bt_own {lo Bb:Nat} {w:World} {X:Option Nat} {tv:Value} {F:List T} (h:Bt lo w Bb X tv F):∀ g,tv.ownBlock=some g->lo<=g/\g<w.heap.size/\some g≠X:=by
  obtain⟨us,how,-,-⟩:=h.own;exact fun g hg=>⟨(World.ownsRow.lt how.1 g hg).1,(World.ownsRow.lt how.1 g hg).2,h.xne g hg⟩
theorem tgo_le {L:List C}:∀ (ps:List Pt) (n:Nat) (l:List UInt8),n<=4096->tgo L ps n=.ok l->n+l.length<=4096
  | [],n,l,hn,h=>by
    unfold tgo at h;injection h with h
    subst h;simpa using hn
  | f :: t,n,l,hn,h=>by
    unfold tgo at h;cases e1:tpc L f.p f.b f.e with
    | error q=>rw[e1] at h;cases h
    | ok s=>
      rw[e1] at h;simp only [bnd] at h;split at h
      · cases h
      · next hlt=>
        cases e2:tgo L t (n+s.size) with
        | error q=>rw[e2] at h;cases h
        | ok r=>
          rw[e2] at h;injection h with h
          have:=tgo_le t (n+s.size) r (by omega) e2;rw[<- h];simp only [List.length_append, Array.length_toList];have:s.data.size=s.size:=rfl;omega
end Go.Proofs.YtdolgmmldncfkaaGreatDoor.GNs
namespace Go.Proofs.YtdolgmmldncfkaaGreatDoor.GNo
open Tak
open Go.RowKit Base JPure VSm JVr JVa GEn GTx GBu GBt GBe GNs
open VPure hiding evL
open TBase (T)
open KBase (Pt Fld Co RP RF)
theorem boxes3 (w:World) (c1 c2 c3:Array Value) (T1 T2 T3:TypeId):∃ W0,((w.alloc (.cells c1 T1)).alloc (.cells c2 T2)).alloc (.cells c3 T3)=W0/\W0.heap.size=w.heap.size+3/\Below w.heap.size w W0/\W0.heap[w.heap.size]? = some (.cells c1 T1 (0,0))/\W0.heap[w.heap.size+1]? = some (.cells c2 T2 (0,0))/\W0.heap[w.heap.size+2]? = some (.cells c3 T3 (0,0)):=by
  refine⟨_,rfl,by simp,(((Below.refl _ w).alloc (Nat.le_refl _) _).alloc (by simp) _).alloc (by simp;omega) _,?_,?_,?_⟩
  · rw[Below.heap_alloc _ _ _ (by simp;omega),Below.heap_alloc _ _ _ (by simp),heap_alloc_new]
  · have:=heap_alloc_new (w.alloc (.cells c1 T1)) (.cells c2 T2)
    rw[World.size_alloc] at this;rw[Below.heap_alloc _ _ _ (by simp)];exact this
  · have:=heap_alloc_new ((w.alloc (.cells c1 T1)).alloc (.cells c2 T2)) (.cells c3 T3)
    simp only [World.size_alloc] at this;exact this
theorem seven_b {w:World} {B:Nat} {v0 v1 v2 v3 v4 v5 v6:Value} {t:TypeId} (h:w.heap[B]? = some (.cells #[v0,v1,v2,v3,v4,v5,v6] t (0,0))) :
    w.cell? ⟨B,0,none⟩=some v0/\w.cell? ⟨B,1,none⟩=some v1/\w.cell? ⟨B,2,none⟩=some v2/\w.cell? ⟨B,3,none⟩=some v3/\w.cell? ⟨B,4,none⟩=some v4/\w.cell? ⟨B,5,none⟩=some v5/\w.cell? ⟨B,6,none⟩=some v6:=by
  refine⟨?_,?_,?_,?_,?_,?_,?_⟩ <;> simp [World.cell?, h]
theorem one_b {w:World} {B:Nat} {v:Value} {t:TypeId} (h:w.heap[B]? = some (.cells #[v] t (0,0))):w.cell? ⟨B,0,none⟩=some v:=by simp [World.cell?, h]
def nT (L:List C) (ps:List Pt) (r:Int):Except Nat (T × Int):=if r=0 then .error 1601 else bnd (tgo L ps 0) fun s=>.ok (T.mk ⟨#[]⟩ ⟨s.toArray⟩ [] [],r - 1)
theorem text_no {K m lo:Nat} {w:World} {B Bb:Nat} {Pv:Value} {sv:Sz} {L:List C} {tv:Value} {F:List T} {num:Int} {t:ByteArray} {fv pv xv lv uv:Value} {ps:List Pt} (h:Wr K m w B Bb Pv sv 0 L) :
    Calls prog 54 #[ptr B,.agg #[.int .i64 1,.string t,fv,pv,xv,lv,uv],.int .i64 num] w fun e w'=>ER (Rs K m B Bb sv L) lo B Bb Pv.ownBlock tv F w (nT L ps 0) e w':=by
  obtain⟨W0,hW0,s0,b0,g1,g2,g3⟩:=boxes3 w #[ptr B] #[.int .i64 1,.string t,fv,pv,xv,lv,uv] #[.int .i64 num] 112 42 3;have h0:=h.below b0;have hlt:=h.lt;have q0:=one_b g1;obtain⟨d0,d1,d2,d3,d4,d5,d6⟩:=seven_b g2;have n0:=one_b g3;have cE:=enter_no h0.box;have HB0:=hid b0;clear h0 h b0 g1 g2 g3;go_enter func54,ntmps54;go_wp2_with (first
    | (go_at_call 74;refine cE.mono ?_;rintro e W1 ⟨rfl,rfl⟩))
  refine⟨rfl,rfl,fun n h1 h2 h3 h4=>HB0.out.mono (by omega),HB0.out.size,fun b h1 h2 h3 h4 h5=>HB0.out.block b h1⟩
theorem text_ok {K m lo:Nat} {w:World} {B Bb:Nat} {Pv:Value} {sv:Sz} {r:Int} {L:List C} {tv:Value} {F:List T} {num:Int} {t:ByteArray} {fv pv xv lv uv:Value} {ps:List Pt} (h:Wr K m w B Bb Pv sv r L) (hr:0<r/\r<=100000) (hb:Bt lo w Bb Pv.ownBlock tv F) (hBlo:B<lo) (hzl:sv.1<lo) (hF:F.length<=65536) (hp:RP false (fun b=>b<K) w pv ps) (hg:∀ j (h:j<ps.length),ps[j].b=true->gd ps[j].e/\ops okOp ps[j].e) :
    Calls prog 54 #[ptr B,.agg #[.int .i64 1,.string t,fv,pv,xv,lv,uv],.int .i64 num] w fun e w'=>ER (Rs K m B Bb sv L) lo B Bb Pv.ownBlock tv F w (nT L ps r) e w':=by
  obtain⟨pa,pc,rfl,hp2⟩:=hp;have hp:RP false (fun b=>b<K) w (.slice pa ps.length pc) ps:=⟨pa,pc,rfl,hp2⟩;have e0:nT L ps r=bnd (tgo L ps 0) fun s=>.ok (T.mk ⟨#[]⟩ ⟨s.toArray⟩ [] [],r - 1):=if_neg (by omega)
  rw[e0];obtain⟨W0,hW0,s0,b0,g1,g2,g3⟩:=boxes3 w #[ptr B] #[.int .i64 1,.string t,fv,(.slice pa ps.length pc),xv,lv,uv] #[.int .i64 num] 112 42 3;have h0:=h.below b0;have hlt:=h.lt;have q0:=one_b g1;obtain⟨d0,d1,d2,d3,d4,d5,d6⟩:=seven_b g2;have n0:=one_b g3;obtain⟨W1,hW1⟩ : ∃ W,W0.setCell ⟨B,3,none⟩ (.int .i64 (r - 1))=W:=⟨_,rfl⟩;have h1:=h0.room (r - 1) hW1;have s1:W1.heap.size=w.heap.size+3:=by rw[<- hW1,World.size_setCell,s0]
  have o1:∀ b,b≠B->W1.heap[b]? = W0.heap[b]?:=fun b hb=>by rw[<- hW1,Below.heap_setCell _ _ _ _ (by simpa using hb)]
  have HO1:Hid (∀ b,b<w.heap.size->b≠B->W1.heap[b]? = w.heap[b]?):=fun b hl hb=>(o1 b hb).trans (b0.block b hl)
  have HB1:Hid (∀ n,n<=B->Below n w W1):=fun n hn=>by rw[<- hW1];exact (b0.mono (by omega)).setCell (by simpa using hn) _
  have cE:=enter_ok h0.box hr;have G1:=hid ((o1 w.heap.size (by omega)).trans g1);have G2:=hid ((o1 (w.heap.size+1) (by omega)).trans g2);have G3:=hid ((o1 (w.heap.size+2) (by omega)).trans g3);have H1:=hid h1;have HB:=hid hb;have hlo:=hb.hi;have p0:=one_b G1.out;obtain⟨-,e1,e2,e3,-,e5,-⟩:=seven_b G2.out;have p1:=one_b G3.out;obtain⟨-,m1,-,-⟩:=wk_box h1.box;have HP:=hid hp;have hpd:RP false (fun b=>b<K) W1.drew (.slice pa ps.length pc) ps:=KBase.RP.keep (w:=w) (w':=W1.drew) (fun b hb hl=>HO1.out b hl (by have:=h1.lB;omega)) hp;have ct:=GTx.text_c (h1.bs.below ((Below.refl _ W1).drew)) hpd hg;obtain⟨U,hU⟩ : ∃ U,tgo L ps 0=U:=⟨_,rfl⟩;rw[hU] at ct;rw[hU];have HL:Hid (∀ l,U=.ok l->l.length<=4096):=fun l e=>by have:=tgo_le ps 0 l (by omega) (hU.trans e);omega
  have cT:=hid ct;have hbl:=(Array.getElem?_eq_some_iff.1 hb.box).1;clear hU ct hpd;clear h0 h b0 g1 g2 g3 hp hp2 hg e0 hb h1 o1 d1 d2 d4 d5 d6;cases U with
  | error q=>
    go_enter func54,ntmps54;go_wp2_with (first
      | (go_at_call 74;refine cE.mono ?_;rintro e W9 ⟨⟨v9,rfl⟩,rfl⟩;rw[hW1]))
    refine wp_region_held_drew (S:=fun w'=>w'.cell? ⟨w.heap.size,0,none⟩=some (ptr B)/\w'.cell? ⟨B,1,none⟩=some (mkr Bb)/\w'.cell? ⟨w.heap.size+1,3,none⟩=some (.slice pa ps.length pc)/\w'.cell? ⟨w.heap.size+1+1,0,none⟩=some (.int .i64 num)) (by kernel_rfl) (by exact⟨p0,m1,e3,p1⟩) (fun hHeld=>?_);refine tkH 0 rfl ?_;try simp only [ptH]
    refine tkH 1 rfl ?_;try simp only [ptH]
    refine tkH 2 rfl ?_;try simp only [ptH]
    refine tkH 3 rfl ?_;try simp only [ptH]
    refine tkH 4 rfl ?_;try simp only [ptH]
    refine tkH 5 rfl ?_;try simp only [ptH]
    refine tkH 6 rfl ?_;try simp only [ptH]
    refine tkH 7 rfl ?_;try simp only [ptH]
    refine tkH 9 rfl ?_;try simp only [ptH]
    refine tkH 10 rfl ?_;try simp only [ptH]
    refine rdH [8] ?_;refine alH rfl fun K0 hK=>?_
    go_simp
    refine cT.out.mono ?_;rintro ee W2 ⟨b2,hq⟩;obtain rfl:=hq;have b2':Below W1.heap.size W1 W2:=(Below.refl _ W1).drew.trans b2;have s2:=b2'.size;refine⟨rfl,rfl,fun n h1 h2 h3 h4=>(HB1.out n h1).trans (b2'.mono (by omega)),by omega,fun b h1 h2 h3 h4 h5=>?_⟩;rw[b2'.block b (by omega),HO1.out b h1 h2]
  | ok sl=>
    have hsl:=HL.out sl rfl;go_enter func54,ntmps54;go_wp2_with (first
      | (go_at_call 74;refine cE.mono ?_;rintro e W9 ⟨⟨v9,rfl⟩,rfl⟩;rw[hW1]))
    refine wp_region_held_drew (S:=fun w'=>w'.cell? ⟨w.heap.size,0,none⟩=some (ptr B)/\w'.cell? ⟨B,1,none⟩=some (mkr Bb)/\w'.cell? ⟨w.heap.size+1,3,none⟩=some (.slice pa ps.length pc)/\w'.cell? ⟨w.heap.size+1+1,0,none⟩=some (.int .i64 num)) (by kernel_rfl) (by exact⟨p0,m1,e3,p1⟩) (fun hHeld=>?_);refine tkH 0 rfl ?_;try simp only [ptH]
    refine tkH 1 rfl ?_;try simp only [ptH]
    refine tkH 2 rfl ?_;try simp only [ptH]
    refine tkH 3 rfl ?_;try simp only [ptH]
    refine tkH 4 rfl ?_;try simp only [ptH]
    refine tkH 5 rfl ?_;try simp only [ptH]
    refine tkH 6 rfl ?_;try simp only [ptH]
    refine tkH 7 rfl ?_;try simp only [ptH]
    refine tkH 9 rfl ?_;try simp only [ptH]
    refine tkH 10 rfl ?_;try simp only [ptH]
    refine rdH [8] ?_;refine alH rfl fun K0 hK=>?_
    go_simp
    refine cT.out.mono ?_;rintro ee W2 ⟨b2,hq⟩;obtain rfl:=hq;have b2':Below W1.heap.size W1 W2:=(Below.refl _ W1).drew.trans b2;have s2:=b2'.size;have H2:=hid (H1.out.below b2');have hob:=bt_own HB.out;have HT2:Hid (Bt lo W2 Bb Pv.ownBlock tv F):=bt_keep HB.out (by omega) (by rw[b2'.block Bb (by omega),HO1.out Bb (by omega) (fun e=>H1.out.ne e.symm)]) (fun b h1 h2 h3=>by rw[b2'.block b (by omega),HO1.out b h2 (by omega)]);have D1:=hid ((b2'.block w.heap.size (by omega)).trans G1.out);have D2:=hid ((b2'.block (w.heap.size+1) (by omega)).trans G2.out);have D3:=hid ((b2'.block (w.heap.size+2) (by omega)).trans G3.out);have p0:=one_b D1.out;obtain⟨-,e1,e2,e3,-,e5,-⟩:=seven_b D2.out;have p1:=one_b D3.out;obtain⟨-,m1,-,-⟩:=wk_box H2.out.box;refine hK.out _ _ (by exact⟨p0,m1,e3,p1⟩) (fun hHeld=>?_);clear hK K0;try simp only [ptH]
    refine rdH [11] ?_;refine alH rfl fun K0 hK=>?_
    go_simp
    rw[meth_t _ (by kernel_rfl)];go_simp
    refine (btext_c HT2.out (fun x e=>(H2.out.xb x e).2.1) hF (by show sl.toArray.size<=_;simp;omega)).mono ?_;rintro ee W3 ⟨⟨v8,rfl⟩,tv',hbt,hkb,hat⟩;have s3:=hkb.size;have oth:∀ b,b<W2.heap.size->b≠Bb->(w.heap.size<=b\/b=B)->W3.heap[b]? = W2.heap[b]?:=fun b h1 h2 h3=>hkb.other b h1 h2 (fun e=>by have:=hob b e.symm;omega)
    have D1c:=hid ((oth w.heap.size (by omega) (by omega) (by omega)).trans D1.out);have D2c:=hid ((oth (w.heap.size+1) (by omega) (by omega) (by omega)).trans D2.out);have D3c:=hid ((oth (w.heap.size+2) (by omega) (by omega) (by omega)).trans D3.out);have DBc:=hid ((oth B (by omega) H1.out.ne (by omega)).trans H2.out.box);have p0:=one_b D1c.out;obtain⟨-,e1,e2,e3,-,e5,-⟩:=seven_b D2c.out;have p1:=one_b D3c.out;obtain⟨-,m1,-,-⟩:=wk_box DBc.out;refine hK.out _ _ (by exact⟨p0,m1,e3,p1⟩) (fun hHeld=>?_);clear hK K0;try simp only [ptH]
    refine dnH ?_;go_wp2_with fail
    go_end0
    refine⟨⟨_,rfl⟩,⟨fun n h1 h2 h3 h4=>((HB1.out n h1).trans (b2'.mono (by omega))).trans (hkb.below n h2),by omega,fun b h1 h2 h3 h4 h5=>?_⟩,Pv.ownBlock,tv',.inl rfl,fun x e=>Nat.lt_of_lt_of_le (H2.out.xb x e).2.1 s3,Rs.keep (tv:=tv) ⟨Pv,rfl,H2.out⟩ hBlo hzl (fun g hg=>(hob g hg).1) (fun g hg=>⟨by have:=(hob g hg).2.1;omega,(hob g hg).2.2⟩) s3 (fun n hn=>hkb.below n hn) (fun b h1 h2 h3=>hkb.other b h1 h2 h3),hbt,hat.imp (fun e=>e) (fun ⟨g,e,hg⟩=>⟨g,e,by omega⟩)⟩;rw[hkb.other b (by omega) h3 h5,b2'.block b (by omega),HO1.out b h1 h2]
end Go.Proofs.YtdolgmmldncfkaaGreatDoor.GNo

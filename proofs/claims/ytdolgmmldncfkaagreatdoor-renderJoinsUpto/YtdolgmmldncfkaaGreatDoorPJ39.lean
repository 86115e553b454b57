import Derived.Test.YtdolgmmldncfkaaGreatDoorPJ04
import Derived.Test.YtdolgmmldncfkaaGreatDoorPJ32
import Derived.Test.YtdolgmmldncfkaaGreatDoorPJ38
open Go.Proofs.Tryz
set_option linter.unusedVariables false
set_option maxRecDepth 20000
set_option maxHeartbeats 6400000
namespace Go.Proofs.YtdolgmmldncfkaaGreatDoor.GKy
open Tak
open Go.RowKit Go.Maps Base EPure JPure VSm GPl GVa GTr GEn GBe GNs GPu GRn
open VPure hiding evL
open IKey (Ky Mp Kl key_of keyed)
def flatK (ks:List Ky):List Value:=ks.flatMap fun x=>[.int .i64 x.1,.int .i64 x.2.1,.string x.2.2]
def OwK (w:World) (B:Nat) (v:Value) (ks:List Ky):Prop:=w.ownsRow B 197 3 v ks.length (flatK ks)
theorem owK_nil (w:World) (B:Nat):OwK w B (.slice none 0 0) []:=World.ownsRow_nil _ _ _ _
theorem owK_mono {w:World} {B B':Nat} {v:Value} {ks:List Ky} (h:OwK w B v ks) (hb:B'<=B):OwK w B' v ks:=by
 refine⟨h.1,?_⟩;rcases h.2 with h2|⟨g,cap,cur,h1,h2,h3⟩
 ·exact .inl h2
 ·exact .inr ⟨g,cap,cur,h1,by omega,h3⟩
theorem infoK:(prog.info? 197).map (fun i=>(i.zero,i.size,i.bytes))=some (some (.agg #[.int .i64 0,.int .i64 0,.string ⟨#[]⟩]),3,32):=by kernel_rfl
section
variable {ops:Array Oper} {o:Oper} {y:Act} {K:Act->World->Prop} {Q:Exit->Act->World->Prop} {E:Prop} {w:World} {base n m c:Nat} {v:Value} {xs news:List Value} {ad:Addr}
theorem wp_key (x z:Operand) (ho:o.op=.call { callee:=.builtin .append,args:=#[x,z],argTypes:=#[167,167] }) (hown:w.ownsRow base 197 3 v n xs) (hl:news.length=m*3) (hnews:∀ j u,news[j]? = some u->w.cell? (ad.add j)=some u) (h1:∀ u ∈ news,u.oneCell'=true) (hb:n+m<=100000) (hbase:base<=w.heap.size)
  (hx:y.eval x=v) (hz:y.eval z=.slice (some ad) m c) (hk:∀ v' W,W.ownsRow base 197 3 v' (n+m) (xs ++ news)->w.grownBy W v.ownBlock->(v'.ownBlock=v.ownBlock\/v'.ownBlock=some w.heap.size)->K (y.put o.dst v') W):o.wp prog y w K Q:=by
 obtain⟨ij,hij,hj0,hj1,hj2⟩:=XLend.info_parts infoK;obtain⟨v',W,hrun,h3,h4,-,h5⟩:=run_append_own_at (P:=prog) w base 167 o.type 197 ij _ 3 32 underlying167 hij hj0 hj1 hj2 rfl (by decide) v n xs hown ad m c news hl hnews h1 (by unfold maxLen;omega) (by omega) hbase;unfold Oper.wp execOp;simp only [ho, resolve, invoke, builtin, Sem.run_bind, Sem.run_pure, Result.andThen_ok, List.map_toArray, List.map_cons, List.map_nil, hx, hz, hrun];exact hk v' W h3 h4 h5
end
theorem fm_below {B Bb:Nat} {X Y:Option Nat} {w w':World} (h:Below w.heap.size w w') (hB:B<w.heap.size):Fm B Bb X Y w w':=⟨fun n h1 h2 _ _=>h.mono (by omega),h.size,fun b hb _ _ _ _=>h.block b hb⟩
theorem map_same {w w':World} {b n:Nat} {D:DataW Unit} (h:w.ownsMap prog 197 (plainElem prog 3) b n D) (e:w'.heap[b]? = w.heap[b]?):w'.ownsMap prog 197 (plainElem prog 3) b n D:=by
 obtain⟨es,clock,hb,F,hs,hD⟩:=h;exact⟨es,clock,e.trans hb,F,hs,hD⟩
structure Kt (B Bb:Nat) (X0:Option Nat) (w W:World) (xc:Array Value) (out:Value) (ks:List Ky) (q:Nat) (D:DataW Unit):Prop where
 ex:W.heap[w.heap.size]? = some (.cells xc 44 (0,0))
 mp:W.ownsMap prog 197 (plainElem prog 3) (w.heap.size+1) q D
 ow:OwK W (w.heap.size+2) out ks
 fm:Fm B Bb X0 none w W
def Xr (w:World) (X0 X:Option Nat):Prop:=X=X0 \/ ∃ y,X=some y/\w.heap.size+2<=y
theorem Kt.step {B Bb:Nat} {X0 X:Option Nat} {w W W':World} {xc:Array Value} {out:Value} {ks:List Ky} {q:Nat} {D:DataW Unit} (h:Kt B Bb X0 w W xc out ks q D) (hf:Fm B Bb X none W W') (hX:Xr w X0 X) (hX0:∀ x,X0=some x->x<w.heap.size) (hB:B<w.heap.size) (hBb:Bb<w.heap.size) (ho:∀ g,out.ownBlock=some g->some g≠X):Kt B Bb X0 w W' xc out ks q D:=by
 have hs:=h.fm.size;have hml:=h.mp.lt;have hxl:=(Array.getElem?_eq_some_iff.1 h.ex).1;have hne:∀ b,b<w.heap.size+2->(b<w.heap.size->some b≠X0)->some b≠X:=by
  intro b hb h0 e;rcases hX with k|⟨y,k,hy⟩
  ·by_cases hl:b<w.heap.size
   ·exact h0 hl (e.trans k)
   ·have:=hX0 b (by rw[<- k,<- e]);omega
  ·rw[k] at e;have:=Option.some.inj e;omega
 refine⟨(hf.other _ hxl (by omega) (by omega) (hne _ (by omega) (fun h=>by omega)) (by simp)).trans h.ex,map_same h.mp (hf.other _ hml (by omega) (by omega) (hne _ (by omega) (fun h=>by omega)) (by simp)),Fresh.own_keep h.ow (fun g hg=>hf.other g (World.ownsRow.lt h.ow g hg).2 (by have:=(World.ownsRow.lt h.ow g hg).1;omega) (by have:=(World.ownsRow.lt h.ow g hg).1;omega) (ho g hg) (by simp)),⟨fun n h1 h2 h3 h4=>(h.fm.below n h1 h2 h3 h4).trans (hf.below n h1 h2 (fun x e=>?_) (fun y e=>by cases e)),by have:=hf.size;omega,fun b h1 h2 h3 h4 h5=>(hf.other b (by omega) h2 h3 (hne b (by omega) (fun _=>h4)) (by simp)).trans (h.fm.other b h1 h2 h3 h4 h5)⟩⟩;rcases hX with k|⟨y,k,hy⟩
 ·exact h3 x (k ▸ e)
 ·rw[k] at e;have:=Option.some.inj e;omega
theorem Kt.below {B Bb:Nat} {X0:Option Nat} {w W W':World} {xc:Array Value} {out:Value} {ks:List Ky} {q:Nat} {D:DataW Unit} (h:Kt B Bb X0 w W xc out ks q D) (hb:Below W.heap.size W W') (hB:B<w.heap.size):Kt B Bb X0 w W' xc out ks q D:=by
 have hs:=h.fm.size;exact⟨(hb.block _ (Array.getElem?_eq_some_iff.1 h.ex).1).trans h.ex,map_same h.mp (hb.block _ h.mp.lt),Fresh.own_keep h.ow (fun g hg=>hb.block g (World.ownsRow.lt h.ow g hg).2),⟨fun n h1 h2 h3 h4=>(h.fm.below n h1 h2 h3 h4).trans (hb.mono (by omega)),by have:=hb.size;omega,fun b h1 h2 h3 h4 h5=>(hb.block b (by omega)).trans (h.fm.other b h1 h2 h3 h4 h5)⟩⟩
def KA (K m B Bb:Nat) (X0:Option Nat) (sv:Sz) (r:Int) (L:List C) (w:World) (A:Except Nat (List Ky)) (e:Ending) (w':World):Prop:=match A with
 | .ok ks=>∃ v Pv',e=.returned v/\OwK w' w.heap.size v ks/\Wr K m w' B Bb Pv' sv r L/\(Pv'.ownBlock=X0 \/ ∃ y,Pv'.ownBlock=some y/\w.heap.size<=y)/\Fm B B X0 none w w'
 | .error q=>e=.panicked (pkE q)/\Fm B B X0 none w w'
theorem wf_i (i:Int) (h : -9223372036854775808<=i/\i<=9223372036854775807):(Lit.int .i64 i).wf=true:=by
 simp [Lit.wf, IntKind.min, IntKind.max, IntKind.signed, IntKind.bits]
 omega
theorem key_ok {c:C} {k:Ky} (h:isK c=.ok k) (hk : -9223372036854775808<=c.k/\c.k<=9223372036854775807) (hi : -9223372036854775808<=c.i/\c.i<=9223372036854775807) (hs:c.s.size<=140737488351232):IKey.Ok k:=by
 obtain⟨kk,b,i,s,n,l⟩:=c;unfold isK at h;split at h
 ·injection h with h
  subst h;simp only [C.k, C.i, C.s] at hk hi hs;refine⟨wf_i _ ?_,wf_i _ ?_,?_⟩
  ·show _<=(if kk=3\/kk=4 then kk else 0)/\(if kk=3\/kk=4 then kk else 0)<=_
   split <;> omega
  ·show _<=(if kk=3 then i else 0)/\(if kk=3 then i else 0)<=_
   split <;> omega
  ·show (if kk=4 then s else ⟨#[]⟩ : ByteArray).size<=_
   split
   ·exact hs
   ·decide
 ·cases h
theorem int_in (w:World) (S:Nat->Prop) (m:Nat) (i:Int) (hi:0<=i/\i<=1000000):Base.In false S w (m+1) (.agg #[.int .i64 3,.bool false,.int .i64 i,.string ⟨#[]⟩,.slice none 0 0,.slice none 0 0]) (iV i):=by
 unfold iV;rw[Base.in_iff];exact⟨_,_,rfl,by omega,by omega,by decide,⟨none,0,rfl,by simp,by omega,by simp,by simp,fun _=>rfl,.inl ⟨rfl,rfl⟩⟩,⟨none,0,rfl,by simp,by simp [maxLen],by simp,fun _=>rfl,.inl ⟨rfl,rfl⟩⟩⟩
theorem int_wf (i:Int):wf (iV i):=by
 refine⟨fun h=>?_,?_⟩
 ·exact absurd h (by show ¬ (3:Int)=6;decide)
 ·show wfL []
  rw[wfL];trivial
theorem kys_cons {L:List C} {x:Ex} {l:List C} {q:Nat} (h:q<l.length) (ks:List Ky):kys L x (l.drop q) q ks=bnd (bnd (ev (rh (L ++ [l[q],iV q])) x) isK) fun k=>if kin k ks=true then .error 1600 else kys L x (l.drop (q+1)) (q+1) (ks ++ [k]):=by
 rw[List.drop_eq_getElem_cons h,kys]
theorem keys_c {K m n:Nat} {w:World} {B Bb:Nat} {Pv:Value} {sv:Sz} {r:Int} {L:List C} {lv xv:Value} {l:List C} {x:Ex} (h:Wr K m w B Bb Pv sv r L) (hl:Base.InL false (fun b=>b<K) w m lv l) (hx:XBase.In false (fun b=>b<K) w n xv x) (hg:gd x) (ho:ops JVa.okOp x) (hwf:∀ c ∈ l,wf c) (hL2:L.length+2<=100000) (hll:l.length<=90000) (hBbw:Bb<w.heap.size) (h0:0<L.length) :
  Calls prog 118 #[ptr B,lv,xv] w fun e w'=>KA K m B Bb Pv.ownBlock sv r L w (kys L x l 0 []) e w':=by
 obtain⟨n',xl,rfl,rfl,-⟩:=hx.shape;obtain⟨W0,hW0⟩ : ∃ W,(w.alloc (.cells #[.int .i64 x.o,.int .i64 x.i,.string x.s,xl] 44)).alloc (.map #[] 0)=W:=⟨_,rfl⟩;have b0:Below w.heap.size w W0:=by rw[<- hW0];exact ((Below.refl _ w).alloc (Nat.le_refl _) _).alloc (by simp) _
 have s0:W0.heap.size=w.heap.size+2:=by rw[<- hW0];simp
 have g0:W0.heap[w.heap.size]? = some (.cells #[.int .i64 x.o,.int .i64 x.i,.string x.s,xl] 44 (0,0)):=by rw[<- hW0,Below.heap_alloc _ _ _ (by simp),heap_alloc_new]
 have hm0:W0.ownsMap prog 197 (plainElem (H:=Unit) prog 3) (w.heap.size+1) 0 (.map []):=by
  have:=World.ownsMap_made (H:=Unit) (w.alloc (.cells #[.int .i64 x.o,.int .i64 x.i,.string x.s,xl] 44)) prog 197 (plainElem (H:=Unit) prog 3);rwa [World.size_alloc,hW0] at this
 have hBw:=h.lt;have HX0:Hid (∀ y,Pv.ownBlock=some y->y<w.heap.size):=fun y hy=>(h.xb y hy).2.1
 have HK0:Hid (Kt B B Pv.ownBlock w W0 #[.int .i64 x.o,.int .i64 x.i,.string x.s,xl] (.slice none 0 0) [] 0 (.map [])):=⟨g0,hm0,owK_nil _ _,fm_below b0 hBw⟩;have HW:=hid (h.below b0);have HLL:=hid hl;obtain⟨la,lcap,rfl,hlc,hcm,hlen,hnil,hLA⟩:=hl;have HLA:Hid (LAt false (fun b=>b<K) w m la lcap l):=hLA;have HXI:=hid hx;have HGO:Hid (gd x/\ops JVa.okOp x):=⟨hg,ho⟩;have HWF:=hid hwf;have HSV:=hid h.zb.1;have HPK:Hid (∀ y,Pv.ownBlock=some y->K<=y):=fun y hy=>(h.xb y hy).1
 have hKB:=h.lB;have hmk:=IKey.make_map l.length;have hz3:∀ w,(zeroValue 3).run prog w=.ok (.int .i64 0) w:=fun w=>by simp [Tryz.zeroValue3]
 obtain⟨T0,hT⟩ : ∃ T0,kys L x l 0 []=T0:=⟨_,rfl⟩;rw[hT];have HT:=hid hT;have HW0:=hid hW0;clear h hLA hx hg ho hwf hT g0 hm0 b0 hW0 s0;go_enter func118,ntmps118;go_wp2_with fail
 try rw[HW0.out]
 go_loopw [7,19] (fun so i wr=>∃ (out:Value) (q:Nat) (ks:List Ky) (Pv':Value) (D:DataW Unit),out=so/\i=.int .i64 q/\q<=l.length/\kys L x (l.drop q) q ks=T0/\ks.length=q/\Mp D ks/\Kt B B Pv.ownBlock w wr #[.int .i64 x.o,.int .i64 x.i,.string x.s,xl] out ks q D/\Wr K m wr B Bb Pv' sv r L/\Xr w Pv.ownBlock Pv'.ownBlock/\(∀ g,out.ownBlock=some g->some g≠Pv'.ownBlock)) (fun _ i _=>l.length - (intOf i).toNat)
 case atStart=>exact⟨_,0,[],Pv,.map [],rfl,rfl,by omega,HT.out,rfl,Mp.nil,HK0.out,HW.out,.inl rfl,fun g e=>by cases e⟩
 case round=>
  clear HT HK0 HW;obtain⟨out,q,ks,Pv',D,rfl,rfl,hq,hM,hkl,hmp,hkt,hwr,hXr,hoX⟩:=hrel;by_cases hlt:q<l.length
  ·have d0:decide ((q:Int)<(l.length:Int))=true:=by simp;omega
   have i0:(0:Int)<=(q:Int):=by omega
   have i1:(q:Int)<(l.length:Int):=by omega
   have sr:=hkt.fm.size;have hml:=hkt.mp.lt;have bK:=hkt.fm.below K hKB hKB HPK.out (fun y e=>by cases e);obtain⟨g,o,u,rfl,hgK,hu,hi0⟩:=elem_at HLA.out hlt;have hi:=hi0.keep (w':=wr) (fun b hb _=>bK.block b hb);obtain⟨an,ln,cn,al,ll,cl,rfl⟩:=VRs.in_shape hi;obtain⟨v0,v1,v2,v3,v4,v5,he,k0,k1,k2,k3,k4,k5⟩:=hu;simp only [Value.agg.injEq, Array.mk.injEq, List.cons.injEq, and_true] at he;obtain⟨rfl,rfl,rfl,rfl,rfl,rfl⟩:=he;have k0:=(World.cell?_of_block (w:=w) (bK.block g hgK)).trans k0;have k1:=(World.cell?_of_block (w:=w) (bK.block g hgK)).trans k1;have k2:=(World.cell?_of_block (w:=w) (bK.block g hgK)).trans k2;have k3:=(World.cell?_of_block (w:=w) (bK.block g hgK)).trans k3;have k4:=(World.cell?_of_block (w:=w) (bK.block g hgK)).trans k4;have k5:=(World.cell?_of_block (w:=w) (bK.block g hgK)).trans k5;obtain⟨W1,hW1⟩ : ∃ W,wr.alloc (.cells #[.int .i64 l[q].k,.bool l[q].b,.int .i64 l[q].i,.string l[q].s,.slice an ln cn,.slice al ll cl] 26)=W:=⟨_,rfl⟩
   have b1:=alB hW1;have s1:=alS hW1;have HE1:=hid (alG hW1);obtain⟨e0,e1,e2,e3,e4,e5⟩:=Base.six_box HE1.out;have HW1:=hid hW1;rw[kys_cons hlt] at hM;have HM:=hid hM;clear hM hW1;go_upto_region 6 with fail
   try rw[HW1.out]
   refine wp_region_held_drew (S:=fun w'=>w'.cell? ⟨wr.heap.size,0,none⟩=some (.int .i64 l[q].k)/\w'.cell? ⟨wr.heap.size,1,none⟩=some (.bool l[q].b)/\w'.cell? ⟨wr.heap.size,2,none⟩=some (.int .i64 l[q].i)/\w'.cell? ⟨wr.heap.size,3,none⟩=some (.string l[q].s)/\w'.cell? ⟨wr.heap.size,4,none⟩=some (.slice an ln cn)/\w'.cell? ⟨wr.heap.size,5,none⟩=some (.slice al ll cl)) (by kernel_rfl) (by exact⟨e0,e1,e2,e3,e4,e5⟩) (fun hHeld=>?_);refine tkH 0 rfl ?_;try simp only [ptH]
   refine tkH 1 rfl ?_;try simp only [ptH]
   refine tkH 2 rfl ?_;try simp only [ptH]
   refine tkH 3 rfl ?_;try simp only [ptH]
   refine tkH 4 rfl ?_;try simp only [ptH]
   refine rdH [5] ?_;refine alH rfl fun K0 hK=>?_
   go_simp
   refine (whole_c q W1.drew).mono ?_;rintro ee W2 ⟨rfl,b2d⟩;have b2:Below W1.heap.size W1 W2:=(Below.refl _ W1).drew.trans b2d;have s2:=b2.size;have HE2:=hid ((b2.block wr.heap.size (by omega)).trans HE1.out);obtain⟨e0,e1,e2,e3,e4,e5⟩:=Base.six_box HE2.out;refine hK.out _ _ (by exact⟨e0,e1,e2,e3,e4,e5⟩) (fun hHeld=>?_);clear hK K0;try simp only [ptH]
   obtain⟨W3,hW3⟩ : ∃ W,W2.alloc (.cells #[.int .i64 l[q].k,.bool l[q].b,.int .i64 l[q].i,.string l[q].s,.slice an ln cn,.slice al ll cl,.int .i64 3,.bool false,.int .i64 q,.string ⟨#[]⟩,.slice none 0 0,.slice none 0 0] 26)=W:=⟨_,rfl⟩;have b3:=alB hW3;have s3:=alS hW3;have HE3:=hid ((b3.block wr.heap.size (by omega)).trans HE2.out);have b13:Below wr.heap.size wr W3:=b1.trans ((b2.trans (b3.mono (by omega))).mono (by omega));have hnc:∀ j u,(flat [.agg #[.int .i64 l[q].k,.bool l[q].b,.int .i64 l[q].i,.string l[q].s,.slice an ln cn,.slice al ll cl],.agg #[.int .i64 3,.bool false,.int .i64 q,.string ⟨#[]⟩,.slice none 0 0,.slice none 0 0]])[j]? = some u->W3.cell? ((⟨W2.heap.size,0,none⟩ : Addr).add j)=some u:=by
    rw[<- hW3];exact Base.new_cells W2 _ 26
   have hw3:=hwr.below b13;have hkt3:=hkt.below b13 hBw;have hqi:Base.In false (fun b=>b<K) W3 (m+1) (.agg #[.int .i64 l[q].k,.bool l[q].b,.int .i64 l[q].i,.string l[q].s,.slice an ln cn,.slice al ll cl]) l[q]:=(hi.below b13).weak (fun _ h=>h) false id _ (by omega);have cP:=push_c (cp:=2) (N:=[l[q],iV q]) (Ns:=[.agg #[.int .i64 l[q].k,.bool l[q].b,.int .i64 l[q].i,.string l[q].s,.slice an ln cn,.slice al ll cl],.agg #[.int .i64 3,.bool false,.int .i64 q,.string ⟨#[]⟩,.slice none 0 0,.slice none 0 0]]) hw3 (by simpa using hL2) (by have:=b13.size;omega) rfl (fun u hu=>?_) (fun j a b=>?_) (fun c hc=>?_) hnc;rotate_left 1
   ·rcases List.mem_cons.1 hu with e|hu
    ·rw[e];exact⟨_,_,_,_,_,_,rfl,by simp [Value.oneCell']⟩
    ·rw[List.mem_singleton.1 hu];exact⟨_,_,_,_,_,_,rfl,by simp [Value.oneCell']⟩
   ·match j,a with
    | 0,_=>exact hqi
    | 1,_=>exact int_in W3 (fun b=>b<K) m q (by omega)
    | j+2,a=>simp at a;omega
   ·rcases List.mem_cons.1 hc with e|hc
    ·rw[e];exact HWF.out _ (List.getElem_mem hlt)
    ·rw[List.mem_singleton.1 hc];exact int_wf q
   obtain⟨e0,e1,e2,e3,e4,e5⟩:=Base.six_box HE3.out;have HW3:=hid hW3;refine rdH [6] ?_;refine alH rfl fun K0 hK=>?_
   go_simp
   try rw[HW3.out]
   refine hK.out _ _ (by exact⟨e0,e1,e2,e3,e4,e5⟩) (fun hHeld=>?_);clear hK K0;try simp only [ptH]
   refine rdH [7] ?_;refine alH rfl fun K0 hK=>?_
   go_simp
   refine cP.mono ?_;rintro ee W4 ⟨⟨v4,rfl⟩,Pv4,hw4,hat4,hf4⟩;have s4:=hf4.size;have hX4:Xr w Pv.ownBlock Pv4.ownBlock:=by
    rcases hat4 with e|⟨y,e,hy⟩
    ·rw[e];exact hXr
    ·exact .inr ⟨y,e,by have:=b13.size;omega⟩
   have hoX4:∀ g,out.ownBlock=some g->some g≠Pv4.ownBlock:=by
    intro g hg e;rcases hat4 with k|⟨y,k,hy⟩
    ·exact hoX g hg (e.trans k)
    ·rw[k] at e;have:=Option.some.inj e;have:=(World.ownsRow.lt hkt.ow g hg).2;have:=b13.size;omega
   have hkt4:=hkt3.step hf4 hXr HX0.out hBw hBw hoX;have hel4:W4.heap[wr.heap.size]? = _:=(hf4.other wr.heap.size (by omega) (by have:=hkt.fm.size;omega) (by have:=hkt.fm.size;omega) (fun e=>by have:=(hwr.xb _ e.symm).2.1;omega) (by simp)).trans HE3.out;obtain⟨e0,e1,e2,e3,e4,e5⟩:=Base.six_box hel4;refine hK.out _ _ (by exact⟨e0,e1,e2,e3,e4,e5⟩) (fun hHeld=>?_);clear hK K0;try simp only [ptH]
   refine dnH ?_;go_upto_region 7 with fail
   obtain⟨p0,-,-,-⟩:=wk_box hw4.box;obtain⟨x0,x1,x2,x3⟩:=XBase.four_box hkt4.ex;have hwl4:=hw4.lt;have hxl4:=(Array.getElem?_eq_some_iff.1 hkt4.ex).1;have HRK:Hid (∀ W,Below W4.heap.size W4 W->Rk K m (n'+1) W Pv4 (L ++ [l[q],iV q]) (.agg #[.int .i64 x.o,.int .i64 x.i,.string x.s,xl]) x):=fun W hW=>(hw4.below hW).bs.rk (HXI.out.keep (w':=W) (fun b hb _=>((hkt4.below hW hBw).fm.below K hKB hKB HPK.out (fun y e=>by cases e)).block b hb)) HGO.out.1 HGO.out.2
   obtain⟨U,hU⟩ : ∃ U,bnd (ev (rh (L ++ [l[q],iV q])) x) isK=U:=⟨_,rfl⟩;have cK:Hid (∀ W,Below W4.heap.size W4 W->Calls prog 150 #[Pv4,.agg #[.int .i64 x.o,.int .i64 x.i,.string x.s,xl]] W fun e w'=>An W w' e (fun k:Int × Int × ByteArray=>.agg #[.int .i64 k.1,.int .i64 k.2.1,.string k.2.2]) U):=fun W hW=>by rw[<- hU];exact key_c (HRK.out W hW)
   have HOK:Hid (∀ k,U=.ok k->IKey.Ok k):=by
    intro k hk;rw[hk] at hU;obtain⟨c,hc1,hc2⟩:=bnd_ok hU;have hv:=value_c (HRK.out W4 (Below.refl _ _));rw[hc1] at hv;obtain⟨_,_,_,hvr,_⟩:=hv [];obtain⟨-,u,-,hin⟩:=hvr;obtain⟨_,_,_,-,-,hk1,hi1,hs1,-,-⟩:=hin.shape;exact key_ok hc2 hk1 hi1 hs1
   rw[hU] at HM;clear hU;cases U with
   | error z=>
    refine wp_region_held_drew (S:=fun w'=>w'.cell? ⟨B,0,none⟩=some Pv4/\w'.cell? ⟨w.heap.size,0,none⟩=some (.int .i64 x.o)/\w'.cell? ⟨w.heap.size,1,none⟩=some (.int .i64 x.i)/\w'.cell? ⟨w.heap.size,2,none⟩=some (.string x.s)/\w'.cell? ⟨w.heap.size,3,none⟩=some xl) (by kernel_rfl) (by exact⟨p0,x0,x1,x2,x3⟩) (fun hHeld=>?_);refine tkH 0 rfl ?_;try simp only [ptH]
    refine tkH 1 rfl ?_;try simp only [ptH]
    refine tkH 2 rfl ?_;try simp only [ptH]
    refine tkH 3 rfl ?_;try simp only [ptH]
    refine tkH 4 rfl ?_;try simp only [ptH]
    refine rdH [5,6] ?_;refine AllReadyH.cons rfl (fun K0 hK=>?_) (AllReadyH.cons rfl (fun K0 hK=>?_) (AllReadyH.nil))
    ·go_simp
     refine (cK.out W4.drew ((Below.refl _ W4).drew)).mono ?_;rintro ee W5 ⟨rfl,b5⟩;have hT:=HM.out;subst hT;exact⟨rfl,rfl,(hkt4.below ((Below.refl _ W4).drew.trans b5) hBw).fm⟩
    ·go_simp
     obtain⟨W5,hW5⟩ : ∃ W,(W4.alloc (.cells #[.int .i64 0,.int .i64 0,.string ⟨#[]⟩] 197)).drew=W:=⟨_,rfl⟩;try rw[hW5]
     have b5:Below W4.heap.size W4 W5:=by rw[<- hW5];exact ((Below.refl _ W4).alloc (Nat.le_refl _) _).drew
     have s5:=b5.size;obtain⟨p0,-,-,-⟩:=wk_box ((b5.block B (by omega)).trans hw4.box);obtain⟨x0,x1,x2,x3⟩:=XBase.four_box ((b5.block w.heap.size (by omega)).trans hkt4.ex);refine hK.out _ _ (by exact⟨p0,x0,x1,x2,x3⟩) (fun hHeld=>?_);clear hK K0;try simp only [ptH]
     refine rdH [5] ?_;refine alH rfl fun K0 hK=>?_
     go_simp
     refine (cK.out W5 b5).mono ?_;rintro ee W6 ⟨rfl,b6⟩;have hT:=HM.out;subst hT;exact⟨rfl,rfl,(hkt4.below (b5.trans (b6.mono b5.size)) hBw).fm⟩
   | ok k=>
    have hok:=HOK.out k rfl;go_cut [11] from 32 to 37 (fun p wc=>∃ R,p=ptr R/\Below W4.heap.size W4 wc/\W4.heap.size<=R/\wc.heap[R]? = some (.cells #[.int .i64 k.1,.int .i64 k.2.1,.string k.2.2] 197 (0,0)))
    case first=>
     rename_i JJ KK hJJ hKK
     refine wp_region_held_drew (S:=fun w'=>w'.cell? ⟨B,0,none⟩=some Pv4/\w'.cell? ⟨w.heap.size,0,none⟩=some (.int .i64 x.o)/\w'.cell? ⟨w.heap.size,1,none⟩=some (.int .i64 x.i)/\w'.cell? ⟨w.heap.size,2,none⟩=some (.string x.s)/\w'.cell? ⟨w.heap.size,3,none⟩=some xl) (by kernel_rfl) (by exact⟨p0,x0,x1,x2,x3⟩) (fun hHeld=>?_);refine tkH 0 rfl ?_;try simp only [ptH]
     refine tkH 1 rfl ?_;try simp only [ptH]
     refine tkH 2 rfl ?_;try simp only [ptH]
     refine tkH 3 rfl ?_;try simp only [ptH]
     refine tkH 4 rfl ?_;try simp only [ptH]
     refine rdH [5,6] ?_;refine AllReadyH.cons rfl (fun K0 hK=>?_) (AllReadyH.cons rfl (fun K0 hK=>?_) (AllReadyH.nil))
     ·go_simp
      refine (cK.out W4.drew ((Below.refl _ W4).drew)).mono ?_;rintro ee W5 ⟨rfl,b5d⟩;have b5:Below W4.heap.size W4 W5:=(Below.refl _ W4).drew.trans b5d;have s5:=b5.size;obtain⟨p0,-,-,-⟩:=wk_box ((b5.block B (by omega)).trans hw4.box);obtain⟨x0,x1,x2,x3⟩:=XBase.four_box ((b5.block w.heap.size (by omega)).trans hkt4.ex);refine hK.out _ _ (by exact⟨p0,x0,x1,x2,x3⟩) (fun hHeld=>?_);clear hK K0;try simp only []
      refine rdH [6] ?_;refine alH rfl fun K0 hK=>?_
      go_simp
      obtain⟨W6,hW6⟩ : ∃ W,W5.alloc (.cells #[.int .i64 0,.int .i64 0,.string ⟨#[]⟩] 197)=W:=⟨_,rfl⟩;try rw[hW6]
      have b6:Below W4.heap.size W4 W6:=by rw[<- hW6];exact b5.alloc s5 _
      obtain⟨RR,hRR⟩ : ∃ R,W5.heap.size=R:=⟨_,rfl⟩;have RRZ:W6.heap[RR]? = some (.cells #[.int .i64 0,.int .i64 0,.string ⟨#[]⟩] 197 (0,0)):=by rw[<- hW6,<- hRR];exact heap_alloc_new W5 _
      try rw[hRR]
      have s6:=b6.size;obtain⟨p0,-,-,-⟩:=wk_box ((b6.block B (by omega)).trans hw4.box);obtain⟨x0,x1,x2,x3⟩:=XBase.four_box ((b6.block w.heap.size (by omega)).trans hkt4.ex);clear hW6;refine hK.out _ _ (by exact⟨p0,x0,x1,x2,x3⟩) (fun hHeld=>?_);clear hK K0;try simp only [ptH]
      obtain⟨r0,r1,r2⟩:=three_b RRZ;obtain⟨rf0,rf1,rf2⟩:=Base.frz3 RRZ;obtain⟨W9,hW9⟩:=stc3 W6 RR (.int .i64 k.1) (.int .i64 k.2.1) (.string k.2.2);obtain⟨q1,q2⟩:=set3 RRZ hW9;have b9:Below W4.heap.size W4 W9:=b6.trans (q2 _ (by omega));have HL:Hid (Below W4.heap.size W4 W9/\W4.heap.size<=RR/\W9.heap[RR]? = some (.cells #[.int .i64 k.1,.int .i64 k.2.1,.string k.2.2] 197 (0,0))):=⟨b9,by omega,q1⟩;obtain⟨p0,-,-,-⟩:=wk_box ((b9.block B (by omega)).trans hw4.box);obtain⟨x0,x1,x2,x3⟩:=XBase.four_box ((b9.block w.heap.size (by omega)).trans hkt4.ex);refine rdH [7] ?_;refine alH rfl fun K0 hK=>?_
      go_wp2_with fail
      try rw[hW9]
      refine hK.out _ _ (by exact⟨p0,x0,x1,x2,x3⟩) (fun hHeld=>?_);clear hK K0;try simp only [ptH]
      refine dnH ?_;go_wp2_with fail
      exact Met.intro (hJJ _ _ ⟨_,_,_,_,_,_,_,⟨_,rfl,HL.out⟩,rfl⟩)
     ·go_simp
      obtain⟨W5,hW5⟩ : ∃ W,(W4.alloc (.cells #[.int .i64 0,.int .i64 0,.string ⟨#[]⟩] 197)).drew=W:=⟨_,rfl⟩;try rw[hW5]
      have b5:Below W4.heap.size W4 W5:=by rw[<- hW5];exact ((Below.refl _ W4).alloc (Nat.le_refl _) _).drew
      have s5:W4.heap.size<W5.heap.size:=by rw[<- hW5];simp
      have HZ5:Hid (W5.heap[W4.heap.size]? = some (.cells #[.int .i64 0,.int .i64 0,.string ⟨#[]⟩] 197 (0,0))):=by rw[<- hW5];exact heap_alloc_new W4 _
      obtain⟨p0,-,-,-⟩:=wk_box ((b5.block B (by omega)).trans hw4.box);obtain⟨x0,x1,x2,x3⟩:=XBase.four_box ((b5.block w.heap.size (by omega)).trans hkt4.ex);clear hW5;refine hK.out _ _ (by exact⟨p0,x0,x1,x2,x3⟩) (fun hHeld=>?_);clear hK K0;try simp only [ptH]
      refine rdH [5] ?_;refine alH rfl fun K0 hK=>?_
      go_simp
      refine (cK.out W5 b5).mono ?_;rintro ee W6 ⟨rfl,b6d⟩;have b6:Below W4.heap.size W4 W6:=b5.trans (b6d.mono (by omega));have s6:=b6.size;obtain⟨RR,hRR⟩ : ∃ R,W4.heap.size=R:=⟨_,rfl⟩;have RRZ:W6.heap[RR]? = some (.cells #[.int .i64 0,.int .i64 0,.string ⟨#[]⟩] 197 (0,0)):=by rw[<- hRR];exact (b6d.block _ (by omega)).trans HZ5.out
      obtain⟨p0,-,-,-⟩:=wk_box ((b6.block B (by omega)).trans hw4.box);obtain⟨x0,x1,x2,x3⟩:=XBase.four_box ((b6.block w.heap.size (by omega)).trans hkt4.ex);refine hK.out _ _ (by exact⟨p0,x0,x1,x2,x3⟩) (fun hHeld=>?_);clear hK K0;try simp only []
      rw[hRR];obtain⟨r0,r1,r2⟩:=three_b RRZ;obtain⟨rf0,rf1,rf2⟩:=Base.frz3 RRZ;obtain⟨W9,hW9⟩:=stc3 W6 RR (.int .i64 k.1) (.int .i64 k.2.1) (.string k.2.2);obtain⟨q1,q2⟩:=set3 RRZ hW9;have b9:Below W4.heap.size W4 W9:=b6.trans (q2 _ (by omega));have HL:Hid (Below W4.heap.size W4 W9/\W4.heap.size<=RR/\W9.heap[RR]? = some (.cells #[.int .i64 k.1,.int .i64 k.2.1,.string k.2.2] 197 (0,0))):=⟨b9,by omega,q1⟩;obtain⟨p0,-,-,-⟩:=wk_box ((b9.block B (by omega)).trans hw4.box);obtain⟨x0,x1,x2,x3⟩:=XBase.four_box ((b9.block w.heap.size (by omega)).trans hkt4.ex);refine rdH [7] ?_;refine alH rfl fun K0 hK=>?_
      go_wp2_with fail
      try rw[hW9]
      refine hK.out _ _ (by exact⟨p0,x0,x1,x2,x3⟩) (fun hHeld=>?_);clear hK K0;try simp only [ptH]
      refine dnH ?_;go_wp2_with fail
      exact Met.intro (hJJ _ _ ⟨_,_,_,_,_,_,_,⟨_,rfl,HL.out⟩,rfl⟩)
    case rest=>
     obtain⟨R,rfl,bc,hR,hRc⟩:=hcut;have sc:=bc.size;have hRl:=(Array.getElem?_eq_some_iff.1 hRc).1;have hwc:=hw4.below bc;have hktc:=hkt4.below bc hBw;have cD:=drop_c (N:=[l[q],iV q]) hwc h0;clear x0 x1 x2 x3 p0;go_wp2_with fail
     refine cD.mono ?_;rintro e W6 ⟨⟨v6,rfl⟩,Pv6,hw6,hp6,hf6⟩;have s6:=hf6.size;have hkt6:=hktc.step hf6 hX4 HX0.out hBw hBw hoX4;have hX6:Xr w Pv.ownBlock Pv6.ownBlock:=by rw[hp6];exact hX4
     have hoX6:∀ g,out.ownBlock=some g->some g≠Pv6.ownBlock:=by rw[hp6];exact hoX4
     have hR6:W6.heap[R]? = some (.cells #[.int .i64 k.1,.int .i64 k.2.1,.string k.2.2] 197 (0,0)):=(hf6.other R hRl (by omega) (by have:=hkt4.fm.size;omega) (fun e=>by have:=(hw4.xb _ e.symm).2.1;omega) (by simp)).trans hRc;obtain⟨y0,y1,y2⟩:=three_b hR6;obtain⟨lit,hkey⟩:=key_of hok;have hkey':keyOf prog 197 (.agg #[.int .i64 k.1,.int .i64 k.2.1,.string k.2.2])=some lit:=hkey;have HKEY:=hid hkey;have hown:=hkt6.mp;have HKT:=hid hkt6;have HW6:=hid hw6;have HX6:=hid hX6;have HO6:=hid hoX6;have HMP:=hid hmp;have HKL:=hid hkl;have hMl:=hkt6.mp.lt;cases hkin:kin k ks with
     | true=>
      have hhas:=(hmp.has k lit hkey).2 (kin_iff.1 hkin);have hM2:=HM.out;simp only [bnd, hkin, if_true] at hM2;have HM2:=hid hM2;clear hkin hM2 hkey hkt6 hw6 hX6 hoX6 hktc hwc hf6 hp6 hRc hR6 hmp hkl cD;go_wp2_with (first
       | (at_lookup;refine wpList_lookup_own_ok_int _ rfl _ _ 195 rfl 197 3 .i64 keyed underlying195 underlying3 (hz3 _) (w.heap.size+1) q D rfl hown _ _ rfl hkey' ?_;intro cc hat hwc;rw[hhas];clear hat))
      have hT:=HM2.out;subst hT;exact⟨rfl,rfl,HKT.out.fm⟩
     | false=>
      have hhas:Maps.has D lit=false:=by
       cases hh:Maps.has D lit with
       | false=>rfl
       | true=>
        have:=kin_iff.2 ((hmp.has k lit hkey).1 hh);rw[hkin] at this;cases this
      have hM2:=HM.out;simp only [bnd, hkin] at hM2;have HM2:=hid hM2;have hwq:=wf_i (q:Int) (by omega);clear hkin hM2 hkey hkt6 hw6 hX6 hoX6 hktc hwc hf6 hp6 hRc hmp hkl cD;go_upto_region 13 with (first
       | (at_lookup;refine wpList_lookup_own_ok_int _ rfl _ _ 195 rfl 197 3 .i64 keyed underlying195 underlying3 (hz3 _) (w.heap.size+1) q D rfl hown _ _ rfl hkey' ?_;intro cc hat hwc;rw[hhas];clear hat)
       | (at_mapUpdate;refine wpList_mapUpdate_own _ rfl _ _ _ 195 rfl 197 3 keyed underlying195 (plainElem prog 3) (w.heap.size+1) q D rfl hown (by simp [maxLen];omega) _ _ lit rfl rfl hkey' (.lit (.int .i64 (q:Nat))) [] (plainElem_int underlying3 hwq) ?_;intro W7 hown7 hg7))
      have s7:=hg7.size;have ho7:∀ b,b<W6.heap.size->b≠w.heap.size+1->W7.heap[b]? = W6.heap[b]?:=fun b hb hn=>hg7.block b hb (fun e=>hn (Option.some.inj e))
      have hR7:=(ho7 R (by omega) (by omega)).trans hR6;have b67:∀ n,n<=w.heap.size+1->Below n W6 W7:=fun n hn=>(Below.refl n W6).grown hg7 (by omega) (fun k e=>by have:=Option.some.inj e;omega)
      have ow7:OwK W7 (w.heap.size+2) out ks:=Fresh.own_keep HKT.out.ow (fun g hg=>ho7 g (World.ownsRow.lt HKT.out.ow g hg).2 (by have:=(World.ownsRow.lt HKT.out.ow g hg).1;omega));have sr6:=HKT.out.fm.size;have hw7:Wr K m W7 B Bb Pv6 sv r L:=HW6.out.keep s7 (b67 K (by omega)) (ho7 B (by omega) (by omega)) (fun b hl e=>ho7 b hl (fun e2=>by
       rcases HX6.out with k|⟨y,k,hy⟩
       ·have:=HX0.out b (k ▸ e);omega
       ·rw[k] at e;have:=Option.some.inj e;omega)) (ho7 _ HW6.out.zb.1 (by have:=HSV.out;omega))
      have hkt7:Kt B B Pv.ownBlock w W7 #[.int .i64 x.o,.int .i64 x.i,.string x.s,xl] out ks (q+1) (D.put lit (.lit (.int .i64 (q:Nat)))):=⟨(ho7 _ (by omega) (by omega)).trans HKT.out.ex,hown7,ow7,⟨fun n h1 h2 h3 h4=>(HKT.out.fm.below n h1 h2 h3 h4).trans (b67 n (by omega)),by omega,fun b h1 h2 h3 h4 h5=>(ho7 b (by omega) (by omega)).trans (HKT.out.fm.other b h1 h2 h3 h4 h5)⟩⟩;obtain⟨W8,hW8⟩ : ∃ W,W7.alloc (.cells #[.int .i64 k.1,.int .i64 k.2.1,.string k.2.2] 197)=W:=⟨_,rfl⟩;have b8:=alB hW8;have s8:=alS hW8;have HKT8:=hid (hkt7.below b8 hBw);have HW8:=hid (hw7.below b8);have HOW8:=hid HKT8.out.ow;have HN8:Hid (∀ j u,([.int .i64 k.1,.int .i64 k.2.1,.string k.2.2] : List Value)[j]? = some u->W8.cell? ((⟨W7.heap.size,0,none⟩ : Addr).add j)=some u):=by
       rw[<- hW8];exact Base.new_cells W7 _ 197
      have hz8:∀ u ∈ ([.int .i64 k.1,.int .i64 k.2.1,.string k.2.2] : List Value),u.oneCell'=true:=by simp [Value.oneCell']
      have HZ8:=hid hz8;have HMP7:Hid (Mp (D.put lit (.lit (.int .i64 (q:Nat)))) (ks ++ [k])):=by
       have:=HMP.out.put HKEY.out;rw[HKL.out] at this;exact this
      have hkq:ks.length+1<=100000:=by have:=HKL.out;omega
      obtain⟨y0,y1,y2⟩:=three_b hR7;have hbase8:w.heap.size+2<=W8.heap.size:=by omega
      clear hz8 hkt7 hw7 ow7 hR6 hown7 hg7 b8;go_wp2_with (first
       | (at_builtin;refine wpList_plain rfl fun _ hK=>wp_key (base:=w.heap.size+2) (news:=[.int .i64 k.1,.int .i64 k.2.1,.string k.2.2]) (m:=1) (n:=ks.length) _ _ rfl HOW8.out rfl HN8.out HZ8.out hkq hbase8 rfl rfl ?_))
      intro v' W9 h3 h4 h5;refine hK _ _ ?_;clear hK;have s9:=h4.size;have hol:∀ g,out.ownBlock=some g->w.heap.size+2<=g/\g<W8.heap.size:=fun g hg=>World.ownsRow.lt HOW8.out g hg
      have ho9:∀ b,b<W8.heap.size->some b≠out.ownBlock->W9.heap[b]? = W8.heap[b]?:=fun b hb hn=>h4.block b hb hn
      have b89:∀ n,n<=w.heap.size+2->Below n W8 W9:=fun n hn=>(Below.refl n W8).grown h4 (by omega) (fun k e=>by have:=(hol k e).1;omega)
      have HE:Hid (Kt B B Pv.ownBlock w W9 #[.int .i64 x.o,.int .i64 x.i,.string x.s,xl] v' (ks ++ [k]) (q+1) (D.put lit (.lit (.int .i64 (q:Nat))))/\Wr K m W9 B Bb Pv6 sv r L/\∀ g,v'.ownBlock=some g->some g≠Pv6.ownBlock):=by
       refine⟨⟨(ho9 _ (by omega) (fun e=>by have:=(hol _ e.symm).1;omega)).trans HKT8.out.ex,map_same HKT8.out.mp (ho9 _ (by omega) (fun e=>by have:=(hol _ e.symm).1;omega)),?_,⟨fun n h1 h2 h3 h4=>(HKT8.out.fm.below n h1 h2 h3 h4).trans (b89 n (by omega)),by omega,fun b h1 h2 h3 h4 h5=>(ho9 b (by omega) (fun e=>by have:=(hol _ e.symm).1;omega)).trans (HKT8.out.fm.other b h1 h2 h3 h4 h5)⟩⟩,HW8.out.keep s9 (b89 K (by omega)) (ho9 B (by omega) (fun e=>by have:=(hol _ e.symm).1;omega)) (fun b hl e=>ho9 b hl (fun e2=>HO6.out b e2.symm e.symm)) (ho9 _ HW8.out.zb.1 (fun e=>by have:=(hol _ e.symm).1;have:=HSV.out;omega)),fun g hg e=>?_⟩
       ·unfold OwK flatK
        rw[List.length_append,List.flatMap_append];exact h3
       ·rcases h5 with k|k
        ·exact HO6.out g (k ▸ hg) e
        ·rw[k] at hg
         have hg:=Option.some.inj hg;have:=(HW8.out.xb g e.symm).2.1;omega
      obtain⟨g',cap',hv'⟩ : ∃ a c,v'=.slice a (ks.length+1) c:=by
       rcases h3.2 with ⟨e,e0⟩|⟨g,cap3,cur,e,_⟩
       ·omega
       ·exact⟨_,_,e⟩
      clear h3 h4 h5 hol ho9 b89;go_wp2_with fail
      go_roundw
      case rel=>exact⟨v',q+1,ks ++ [k],Pv6,_,rfl,by go_num,by omega,HM2.out,by rw[List.length_append,HKL.out];rfl,HMP7.out,HE.out.1,HE.out.2.1,HX6.out,HE.out.2.2⟩
      case measure=>simp only [intOf];omega
  ·obtain rfl:q=l.length:=by omega
   have hnlt:decide ((l.length:Int)<(l.length:Int))=false:=by simp
   have HM:Hid (Except.ok ks=T0):=by have:=hM;rw[List.drop_length,kys] at this;exact this
   have HKT:=hid hkt;have HWR:=hid hwr;have HXR:=hid hXr;clear hM hkt hwr hXr hoX hmp hkl;go_wp2_with fail
   go_ret
   have hT:=HM.out;subst hT;refine⟨_,Pv',rfl,owK_mono HKT.out.ow (by omega),HWR.out,HXR.out.imp (fun e=>e) (fun ⟨y,e,hy⟩=>⟨y,e,by omega⟩),HKT.out.fm⟩
end Go.Proofs.YtdolgmmldncfkaaGreatDoor.GKy

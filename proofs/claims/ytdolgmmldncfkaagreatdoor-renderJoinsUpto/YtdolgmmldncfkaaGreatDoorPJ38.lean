import Derived.DeepKeys4
import Derived.Laws.StructEq
import Derived.Maps.OwnSet
import Derived.Maps.Views
import Derived.Test.YtdolgmmldncfkaaGreatDoorPJ22
import Derived.Test.YtdolgmmldncfkaaGreatDoorPJ30
import Derived.Test.YtdolgmmldncfkaaGreatDoorPJ32
open Go.Proofs.Tryz
set_option linter.unusedVariables false
set_option maxRecDepth 1000000
set_option maxHeartbeats 6400000
namespace Go.Proofs.YtdolgmmldncfkaaGreatDoor.GPu
open Go.RowKit Base VSm GPl GEn GBe GNs
open VPure hiding evL
theorem app_ty (ty:TypeId) (v x:Value) (w:World):Sem.run prog (Builtin.append_ #[70,24] ty #[v,x]) w=Sem.run prog (Builtin.append_ #[70,70] ty #[v,x]) w:=by
 have h1:=run_underlying (P:=prog) underlying70;have h2:=run_underlying (P:=prog) underlying24;unfold Builtin.append_;simp only [List.getElem?_toArray, List.getElem?_cons_zero, List.getElem?_cons_succ, Sem.run_bind, h1, Result.andThen_ok];cases v with
 | slice base n cap=>
  simp only [Sem.run_bind];refine congrArg (Result.andThen _) (funext fun size=>funext fun w2=>?_);simp only [h1, h2, Result.andThen_ok, Sem.run_pure]
 | _=>rfl
section
variable {ops:Array Oper} {o:Oper} {y:Act} {K:Act->World->Prop} {Q:Exit->Act->World->Prop} {E:Prop} {w:World} {base n m c:Nat} {v:Value} {xs news:List Value} {ad:Addr}
theorem wp_vals (x z:Operand) (ho:o.op=.call { callee:=.builtin .append,args:=#[x,z],argTypes:=#[70,24] }) (hown:w.ownsRow base 26 6 v n xs) (hl:news.length=m*6) (hnews:∀ j u,news[j]? = some u->w.cell? (ad.add j)=some u) (h1:∀ u ∈ news,u.oneCell'=true) (hb:n+m<=100000) (hbase:base<=w.heap.size)
  (hx:y.eval x=v) (hz:y.eval z=.slice (some ad) m c) (hk:∀ v' W,W.ownsRow base 26 6 v' (n+m) (xs ++ news)->w.grownBy W v.ownBlock->(v'.ownBlock=v.ownBlock\/v'.ownBlock=some w.heap.size)->K (y.put o.dst v') W):o.wp prog y w K Q:=by
 obtain⟨ij,hij,hj0,hj1,hj2⟩:=XLend.info_parts info25;obtain⟨v',W,hrun,h3,h4,-,h5⟩:=run_append_own_at (P:=prog) w base 70 o.type 26 ij _ 6 88 underlying70 hij hj0 hj1 hj2 rfl (by decide) v n xs hown ad m c news hl hnews h1 (by unfold maxLen;omega) (by omega) hbase;unfold Oper.wp execOp;simp only [ho, resolve, invoke, builtin, Sem.run_bind, Sem.run_pure, Result.andThen_ok, List.map_toArray, List.map_cons, List.map_nil, hx, hz, app_ty, hrun];exact hk v' W h3 h4 h5
end
theorem so_sk {K m:Nat} {w:World} {Pv:Value} {L:List C} (h:So K m w Pv L) (hl:L.length<=100000):Sk K m w Pv L:=by
 obtain⟨us,h1,h2,h3⟩:=h;rcases h1.1.2 with ⟨e,e0⟩|⟨g,cap,cur,e,hb,hc,hle,hm,hsz,htk⟩
 ·have hL:L=[]:=List.eq_nil_of_length_eq_zero (by omega)
  subst hL;exact⟨none,0,by rw[e];simp,by simp,by simp,by omega,fun j hj=>by cases hj⟩
 ·subst e
  refine⟨some ⟨g,0,none⟩,cap,by rw[h2],hl,by omega,by unfold maxLen at hm;omega,fun j hj=>⟨g,us[j]'(by omega),rfl,?_,h3 j (by omega) hj⟩⟩;have:=ownV_six h1 j (by omega);simpa using this
theorem so_take {K m n cap:Nat} {w:World} {a:Option Addr} {L N:List C} (h:So K m w (.slice a n cap) (L ++ N)):So K m w (.slice a L.length cap) L:=by
 obtain⟨us,h1,h2,h3⟩:=h;rw[List.length_append] at h2;have hl:(us.take L.length).length=L.length:=by simp;omega
 refine⟨us.take L.length,⟨?_,fun u hu=>h1.2 u (List.mem_of_mem_take hu)⟩,hl,fun j a b=>?_⟩
 ·have hs:Sixes (us.take L.length):=fun u hu=>h1.2 u (List.mem_of_mem_take hu)
  refine⟨flat_len hs,?_⟩;rcases h1.1.2 with ⟨e,e0⟩|⟨g,cp,cur,e,hb,hc,hle,hm,hsz,htk⟩
  ·cases e
   exact .inl ⟨by rw[show L.length=0 by omega],by omega⟩
  ·cases e
   refine .inr ⟨g,cap,cur,by rw[hl],hb,hc,by omega,hm,hsz,?_⟩;have e1:flat us=flat (us.take L.length) ++ flat (us.drop L.length):=by rw[<- flat_append,List.take_append_drop]
   rw[e1] at htk;have e2:=congrArg (List.take ((us.take L.length).length*6)) htk;have e3:(flat (us.take L.length) ++ flat (us.drop L.length)).take ((us.take L.length).length*6)=flat (us.take L.length):=by
    rw[List.take_append_of_le_length (Nat.le_of_eq (flat_len hs).symm)];exact List.take_of_length_le (Nat.le_of_eq (flat_len hs))
   rw[e3,List.take_take] at e2;rw[<- e2];congr 1
   rw[hl];omega
 ·have:=h3 j (by rw[hl] at a;omega) (by rw[List.length_append];omega)
  rw[List.getElem_take];rw[List.getElem_append_left b] at this;exact this
theorem rh_app {L N:List C} {j:Int} {c:C} (h:rh (L ++ N) j=some c):rh L j=some c\/c ∈ N:=by
 unfold rh at h ⊢;split at h
 ·next h0=>
  rw[List.getElem?_append] at h;split at h
  ·rw[if_pos h0];exact .inl h
  ·exact .inr (List.mem_of_getElem? h)
 ·cases h
theorem push_c {K m:Nat} {w:World} {B Bb:Nat} {Pv:Value} {sv:Sz} {r:Int} {L N:List C} {Ns:List Value} {g cp:Nat} (h:Wr K m w B Bb Pv sv r L) (hl:L.length+N.length<=100000) (hBb:Bb<w.heap.size) (hn:Ns.length=N.length) (hs:Sixes Ns) (hin:∀ j (h:j<Ns.length) (h':j<N.length),Base.In false (fun b=>b<K) w (m+1) Ns[j] N[j]) (hwf:∀ c ∈ N,wf c) (hc:∀ j u,(flat Ns)[j]? = some u->w.cell? ((⟨g,0,none⟩ : Addr).add j)=some u) :
  Calls prog 120 #[ptr B,.slice (some ⟨g,0,none⟩) Ns.length cp] w fun e w'=>(∃ v,e=.returned v)/\∃ Pv',Wr K m w' B Bb Pv' sv r (L ++ N)/\(Pv'.ownBlock=Pv.ownBlock \/ ∃ x,Pv'.ownBlock=some x/\w.heap.size<=x)/\Fm B B Pv.ownBlock none w w':=by
 obtain⟨us,hou,hul,huin⟩:=h.so;obtain⟨k0,k1,k2,k3⟩:=wk_box h.box;have HW:=hid h;have HOU:=hid hou;have HUI:=hid huin
 have HIN:=hid hin
 have HWF:=hid hwf;have HC:=hid hc;have HS:=hid hs;have hfl:=flat_len hs;have HFL:=hid hfl;have hone:∀ u ∈ flat Ns,u.oneCell'=true:=by
  intro u hu;unfold flat at hu;rw[List.mem_flatMap] at hu;obtain⟨a,ha,hua⟩:=hu;obtain⟨v0,v1,v2,v3,v4,v5,rfl,hx⟩:=hs a ha;exact hx u (by simpa [Value.cells] using hua)
 have HONE:=hid hone;have hlt:=h.lt;have hlB:=h.lB;have hbb:=HW.out.lb;have HNL:Hid (Ns.length=N.length/\us.length=L.length):=⟨hn,hul⟩;have hle:us.length+Ns.length<=100000:=by omega
 obtain⟨pa,pc,hPv,-⟩:=h.sk;subst hPv;clear h hou huin hin hwf hc hs hone hfl hn hul;go_enter func120,ntmps120;go_wp2_with (first
  | (at_builtin;refine wpList_plain rfl fun _ hK=>wp_vals (base:=K) (news:=flat Ns) (m:=Ns.length) (n:=us.length) _ _ rfl HOU.out.1 HFL.out HC.out HONE.out hle (by omega) rfl rfl ?_))
 intro v' W h3 h4 h5;refine hK _ _ ?_;clear hK;have hxb:∀ b,some b=(Value.slice pa L.length pc).ownBlock->b≠B:=fun b e=>(HW.out.xb b e.symm).2.2.1
 have hbW:=(h4.block B hlt (fun e=>hxb B e rfl)).trans HW.out.box;obtain⟨q0,q1,q2,q3⟩:=wk_box hbW;have f0:=frozen_box hbW 0;obtain⟨W9,hW9⟩ : ∃ W9,W.setCell ⟨B,0,none⟩ v'=W9:=⟨_,rfl⟩;have hs9:W9.heap.size=W.heap.size:=by rw[<- hW9,World.size_setCell]
 have ho9:∀ b,b≠B->W9.heap[b]? = W.heap[b]?:=fun b hb=>by rw[<- hW9,Below.heap_setCell _ _ _ _ (by simpa using hb)]
 have hsW:=h4.size;obtain⟨g',cap',hv'⟩ : ∃ a c,v'=.slice a (us.length+Ns.length) c:=by
  rcases h3.2 with ⟨e,e0⟩|⟨g,cap3,cur,e,_⟩
  ·exact⟨none,0,by rw[e,e0]⟩
  ·exact⟨_,_,e⟩
 have hat:v'.ownBlock=(Value.slice pa L.length pc).ownBlock \/ ∃ x,v'.ownBlock=some x/\w.heap.size<=x:=h5.imp (fun e=>e) (fun e=>⟨_,e,Nat.le_refl _⟩);have hoth:∀ b,b<w.heap.size->b≠B->some b≠(Value.slice pa L.length pc).ownBlock->W9.heap[b]? = w.heap[b]?:=fun b h1 h2 h3=>(ho9 b h2).trans (h4.block b h1 h3)
 have hbK:∀ n,n<=B->(∀ x,(Value.slice pa L.length pc).ownBlock=some x->n<=x)->Below n w W9:=fun n h1 h2=>by
  rw[<- hW9];exact ((Below.refl n w).grown h4 (by omega) h2).setCell (by simpa using h1) _
 have HE:Hid (Wr K m W9 B Bb v' sv r (L ++ N)/\Fm B B (Value.slice pa L.length pc).ownBlock none w W9):=by
  have hvB:∀ x,v'.ownBlock=some x->K<=x/\x<W.heap.size/\x≠B/\x≠Bb/\x≠sv.1:=by
   intro x hx;have hlt3:=World.ownsRow.lt h3 x hx;refine⟨hlt3.1,hlt3.2,?_⟩;rcases h5 with e|e
   ·have hq:=HW.out.xb x (e ▸ hx)
    exact⟨hq.2.2.1,hq.2.2.2,fun e2=>HW.out.zb.2.2.2 (by rw[<- e,hx,e2])⟩
   ·rw[hx] at e
    have e:=Option.some.inj e;have:=HW.out.zb.1;exact⟨by omega,by omega,by omega⟩
  have hso:So K (m+1) W9 v' (L ++ N):=by
   refine⟨us ++ Ns,⟨?_,?_⟩,by rw[List.length_append,List.length_append];have:=HNL.out;omega,fun j a b=>?_⟩
   ·rw[flat_append,List.length_append]
    exact Fresh.own_keep h3 (fun q hq=>ho9 q (hvB q hq).2.2.1)
   ·intro u hu
    rcases List.mem_append.1 hu with hu|hu
    ·exact HOU.out.2 u hu
    ·exact HS.out u hu
   ·have hkp:∀ b,b<K->b<w.heap.size->W9.heap[b]? = w.heap[b]?:=fun b hb hl=>hoth b hl (by omega) (fun e=>by have:=(HW.out.xb b e.symm).1;omega)
    have hnl:=HNL.out;by_cases hj:j<us.length
    ·rw[List.getElem_append_left hj,List.getElem_append_left (by omega)]
     exact (HUI.out j hj (by omega)).keep (fun b hb hl=>hkp b hb hl)
    ·rw[List.length_append] at a b
     rw[List.getElem_append_right (by omega),List.getElem_append_right (by omega)];have:=HIN.out (j - us.length) (by omega) (by omega);have e:N[j - L.length]'(by omega)=N[j - us.length]'(by omega):=by congr 1;omega
     rw[e];exact this.keep (fun b hb hl=>hkp b hb hl)
  refine⟨⟨?_,hlB,hbb,HW.out.ne,?_,fun W' hW'=>HW.out.tk W' ((hbK K hlB (fun x hx=>(HW.out.xb x hx).1)).trans hW'),so_sk hso (by rw[List.length_append];have:=HNL.out;omega),fun x hx=>⟨(hvB x hx).1,by rw[hs9];exact (hvB x hx).2.1,(hvB x hx).2.2.1,(hvB x hx).2.2.2.1⟩,⟨by have:=HW.out.zb.1;omega,HW.out.zb.2.1,HW.out.zb.2.2.1,fun e=>(hvB _ e).2.2.2.2 rfl⟩,fun j hj=>?_,hso⟩,⟨fun n h1 h2 h3 h4=>hbK n h1 h3,by omega,fun b h1 h2 h3 h4 h5=>hoth b h1 h2 h4⟩⟩
  ·rw[<- hW9]
   exact TBase.block_set hbW _
  ·intro j c hj
   rcases rh_app hj with e|e
   ·exact HW.out.wfs j c e
   ·exact HWF.out c e
  ·exact (World.cell?_of_block (w:=w) (hoth sv.1 HW.out.zb.1 HW.out.zb.2.1 (fun e=>HW.out.zb.2.2.2 e.symm))).trans (HW.out.zc j hj)
 have HAT:=hid hat;subst hv';clear h3 h4 h5 hbW hoth hbK hat hxb ho9 q1 q2 q3;go_wp2_with fail
 go_end0
 try rw[hW9]
 exact⟨⟨_,rfl⟩,_,HE.out.1,HAT.out,HE.out.2⟩
theorem drop_c {K m:Nat} {w:World} {B Bb:Nat} {Pv:Value} {sv:Sz} {r:Int} {L N:List C} (h:Wr K m w B Bb Pv sv r (L ++ N)) (h0:0<L.length) :
  Calls prog 122 #[ptr B,.int .i64 N.length] w fun e w'=>(∃ v,e=.returned v)/\∃ Pv',Wr K m w' B Bb Pv' sv r L/\Pv'.ownBlock=Pv.ownBlock/\Fm B B Pv.ownBlock none w w':=by
 have HW:=hid h;obtain⟨k0,k1,k2,k3⟩:=wk_box h.box;have f0:=frozen_box h.box 0;obtain⟨a,cap,hPv,hl1,hl2,hl3,hel⟩:=h.sk;obtain⟨g,u,rfl,-⟩:=hel 0 (by rw[List.length_append];omega);subst hPv;have hle:L.length+N.length=(L ++ N).length:=by rw[List.length_append]
 obtain⟨n,hn⟩ : ∃ n,(L ++ N).length=n:=⟨_,rfl⟩;have HLN:=hid hn;rw[hn] at hle hl1 hl2 k0;have hwp:IntKind.i64.wrap ((n:Int) - (N.length:Int))=(L.length:Int):=by rw[IntKind.wrap_i64];omega
 have i0:(0:Int)<=(L.length:Int):=by omega
 have i1:(L.length:Int)<=(cap:Int):=by omega
 obtain⟨W9,hW9⟩ : ∃ W9,w.setCell ⟨B,0,none⟩ (.slice (some ⟨g,0,none⟩) L.length cap)=W9:=⟨_,rfl⟩;have hs9:W9.heap.size=w.heap.size:=by rw[<- hW9,World.size_setCell]
 have ho9:∀ b,b≠B->W9.heap[b]? = w.heap[b]?:=fun b hb=>by rw[<- hW9,Below.heap_setCell _ _ _ _ (by simpa using hb)]
 have hb9:∀ n,n<=B->Below n w W9:=fun n hn=>by rw[<- hW9];exact (Below.refl n w).setCell (by simpa using hn) _
 have HE:Hid (Wr K m W9 B Bb (.slice (some ⟨g,0,none⟩) L.length cap) sv r L/\Fm B B (Value.slice (some ⟨g,0,none⟩) (L ++ N).length cap).ownBlock none w W9):=by
  have hso:So K (m+1) W9 (.slice (some ⟨g,0,none⟩) L.length cap) L:=so_keep (so_take HW.out.so) (fun b hl hc=>ho9 b (by
   rcases hc with hc|hc
   ·have:=HW.out.lB;omega
   ·exact (HW.out.xb b hc).2.2.1))
  refine⟨⟨?_,HW.out.lB,HW.out.lb,HW.out.ne,?_,fun W' hW'=>HW.out.tk W' ((hb9 K HW.out.lB).trans hW'),so_sk hso (by omega),fun x hx=>⟨(HW.out.xb x hx).1,by rw[hs9];exact (HW.out.xb x hx).2.1,(HW.out.xb x hx).2.2⟩,⟨by rw[hs9];exact HW.out.zb.1,HW.out.zb.2⟩,fun j hj=>?_,hso⟩,⟨fun n h1 h2 h3 h4=>hb9 n h1,by omega,fun b h1 h2 h3 h4 h5=>ho9 b h2⟩⟩
  ·rw[<- hW9]
   exact TBase.block_set HW.out.box _
  ·intro j c hj
   refine HW.out.wfs j c ?_;unfold rh at hj ⊢;split at hj
   ·next h0=>
    rw[if_pos h0,List.getElem?_append_left (by have:=(List.getElem?_eq_some_iff.1 hj).1;omega)];exact hj
   ·cases hj
  ·exact (World.cell?_of_block (w:=w) (ho9 sv.1 HW.out.zb.2.1)).trans (HW.out.zc j hj)
 have HN0:=hid hle;have HE2:Hid (Wr K m W9.drew B Bb (.slice (some ⟨g,0,none⟩) L.length cap) sv r L/\Fm B B (Value.slice (some ⟨g,0,none⟩) (L ++ N).length cap).ownBlock none w W9.drew):=⟨HE.out.1.below ((Below.refl _ _).drew),⟨fun n h1 h2 h3 h4=>(HE.out.2.below n h1 h2 h3 h4).drew,HE.out.2.size,HE.out.2.other⟩⟩;clear h hel hn hb9 ho9 hs9 hle k1 k2 k3 h0;go_enter func122,ntmps122;go_wp2_with fail
 go_region
 all_goals (try go_wp2_with fail)
 all_goals (try go_end0)
 all_goals (try rw[hW9])
 all_goals exact⟨⟨_,rfl⟩,_,HE2.out.1,rfl,HE2.out.2⟩
theorem whole_c (i:Int) (w:World):Calls prog 121 #[.int .i64 i] w fun e w'=>e=.returned (.agg #[.int .i64 3,.bool false,.int .i64 i,.string ⟨#[]⟩,.slice none 0 0,.slice none 0 0])/\Below w.heap.size w w':=by
 obtain⟨W,hW⟩ : ∃ W,w.alloc (.cells #[.int .i64 3,.bool false,.int .i64 i,.string ⟨#[]⟩,.slice none 0 0,.slice none 0 0] 26)=W:=⟨_,rfl⟩;have b0:=alB hW;have h0:=alG hW;have HW:=hid hW;have H0:=hid h0;clear hW h0;go_enter func121,ntmps121;go_wp2_with fail
 rw[HW.out];refine bodyPost_ret (results_cell_row rfl _ W w.heap.size 26 _ (0,0) _ rfl H0.out underlying26 rfl (by kernel_rfl)) rfl ?_;exact⟨rfl,b0⟩
end Go.Proofs.YtdolgmmldncfkaaGreatDoor.GPu
namespace Go.Proofs.YtdolgmmldncfkaaGreatDoor.IKey
open Go.RowKit Go.Maps
abbrev Ky:=Int × Int × ByteArray
def kv (x:Ky):Value:=.agg #[.int .i64 x.1,.int .i64 x.2.1,.string x.2.2]
def Ok (x:Ky):Prop:=(Lit.int .i64 x.1).wf=true/\(Lit.int .i64 x.2.1).wf=true/\x.2.2.size<=140737488351232
theorem laidOut:laidOutB prog=true:=by kernel_rfl
theorem rowK:(197:TypeId)<prog.types.size:=of_decide_eq_true (by kernel_rfl)
theorem wideK:(match prog.underlying 197 with | some (.array _ _) | some (.struct _)=>true | _=>false)=true:=by kernel_rfl
theorem keyed:Keyed prog 197:=Keyed.of_law (deep_law_laid laidOut (m:=3) (by omega) rowK (by kernel_rfl) wideK)
theorem keyK:prog.keyType 197=true:=by kernel_rfl
theorem cellsK:prog.cellsOf 197=3:=by kernel_rfl
theorem cells3:prog.cellsOf 3=1:=by kernel_rfl
theorem cells9:prog.cellsOf 9=1:=by kernel_rfl
def Kl (x:Ky) (l:Lit):Prop:=keyOf prog 197 (kv x)=some l
theorem types_pos:∃ m,prog.types.size=m+1:=⟨_,(Nat.succ_pred_eq_of_pos (Nat.lt_of_le_of_lt (Nat.zero_le _) rowK)).symm⟩
theorem key_of {x:Ky} (h:Ok x):∃ l,Kl x l:=by
 have hf:(kv x).formed prog 197=true:=by
  simp [kv, Value.formed, underlying197, cellsK]
 unfold Kl keyOf;rw[underlying197];simp only [keyK, hf, Bool.and_self, if_true];obtain⟨m,hm⟩:=types_pos;rw[hm];have h9:x.2.2.size<=maxLen:=by simp [maxLen];have:=h.2.2;omega
 simp [Program.keyLits, underlying197, underlying3, underlying9, cellsK, cells3, cells9, kv, Value.cells, h.1, h.2.1, h9]
theorem kv_inj {x y:Ky} (h:kv x=kv y):x=y:=by
 obtain⟨a,b,c⟩:=x;obtain⟨d,e,f⟩:=y;simp [kv] at h
 obtain⟨rfl,rfl,rfl⟩:=h;rfl
theorem Kl.inj {x y:Ky} {l:Lit} (h1:Kl x l) (h2:Kl y l):x=y:=kv_inj (keyed.inj h1 h2)
theorem Kl.one {x:Ky} {l l':Lit} (h1:Kl x l) (h2:Kl x l'):l=l':=by
 unfold Kl at h1 h2;rw[h1] at h2;cases h2;rfl
theorem Kl.key {x:Ky} {l:Lit} (h:Kl x l):WideAt.IsKeyLit l:=keyed.key h
structure Mp {H:Type} (D:DataW H) (ks:List Ky):Prop where
 tidy:Tidy D
 has:∀ x l,Kl x l->(Maps.has D l=true ↔ x ∈ ks)
 at':ks.Nodup->∀ (j:Nat) x l,Kl x l->ks[j]? = some x->∀ z,D.atKey l z=.lit (.int .i64 j)
 le:Maps.size D<=ks.length
 full:ks.Nodup ↔ Maps.size D=ks.length
theorem Mp.nil {H:Type}:Mp (.map [] : DataW H) []:=⟨tidy_empty,fun x l _=>by simp [Maps.has],fun _ j x l _ h=>by simp at h,by simp [Maps.size],by simp [Maps.size]⟩
theorem Mp.put {H:Type} {D:DataW H} {ks:List Ky} (h:Mp D ks) {x:Ky} {l:Lit} (hl:Kl x l):Mp (D.put l (.lit (.int .i64 (ks.length:Nat)))) (ks ++ [x]):=by
 have hsz:=size_put (k:=l) h.tidy (.lit (.int .i64 (ks.length:Nat)));refine⟨h.tidy.put hl.key _,?_,?_,?_,?_⟩
 ·intro y m hm
  by_cases e:y=x
  ·subst e
   rw[hm.one hl,has_put_same h.tidy.isMap hl.key];simp
  ·rw[has_put_other (fun e2=>e (by subst e2;exact hm.inj hl)),h.has y m hm]
   simp [e]
 ·intro hnd j y m hm hj z
  rw[List.nodup_append] at hnd;rw[List.getElem?_append] at hj;by_cases e:y=x
  ·subst e
   rw[hm.one hl,atKey_put_same h.tidy.isMap hl.key];split at hj
   ·have:=List.mem_of_getElem? hj
    exact absurd rfl (hnd.2.2 y this y (by simp))
   ·have:=(List.getElem?_eq_some_iff.1 hj).1
    simp at this
    rw[show j=ks.length by omega]
  ·rw[atKey_put_other (fun e2=>e (by subst e2;exact hm.inj hl))]
   split at hj
   ·exact h.at' hnd.1 j y m hm hj z
   ·have:=List.mem_of_getElem? hj
    simp at this
    exact absurd this e
 ·rw[hsz]
  have:=h.le;split <;> simp <;> omega
 ·rw[hsz]
  have hh:=h.has x l hl;have:=h.le;by_cases hx:x ∈ ks
  ·rw[if_pos (hh.2 hx)]
   constructor
   ·intro hnd
    exact absurd rfl ((List.nodup_append.1 hnd).2.2 x hx x (by simp))
   ·intro h
    simp at h
    omega
  ·rw[if_neg (fun e=>hx (hh.1 e))]
   constructor
   ·intro hnd
    have:=h.full.1 (List.nodup_append.1 hnd).1;simp
    omega
   ·intro h2
    simp at h2
    refine List.nodup_append.2 ⟨h.full.2 h2,by simp,fun a ha b hb e=>?_⟩;simp at hb
    subst hb;subst e;exact hx ha
theorem make_map (n:Nat) (w:World):(Instr.makeMap 195 (some (.int .i64 n))).run prog w=.ok (.map (some w.heap.size)) (w.alloc (.map #[] 0)):=by
 simp [Instr.makeMap, go_sem]
end Go.Proofs.YtdolgmmldncfkaaGreatDoor.IKey
namespace Go.Proofs.YtdolgmmldncfkaaGreatDoor.GLB
open Go.RowKit Base GEn GBu GBe GNs GNg
open VPure hiding evL
open TBase (T)
theorem gl_lp {f:Nat->Int->Except Nat (List T × Int)} {g:Nat->C->Int->Except Nat (List T × Int)} {l:List C} (hfg:∀ q (h:q<l.length),f q=g q l[q]):∀ (n q:Nat) (x:Int) (F:List T),n+q=l.length->gl f n q x F=GRn.lp g (l.drop q) q x F
 | 0,q,x,F,h=>by rw[List.drop_eq_nil_of_le (by omega)];rfl
 | n+1,q,x,F,h=>by
  rw[List.drop_eq_getElem_cons (by omega:q<l.length),gl,hfg q (by omega),GRn.lp];congr 1
  funext a
  exact gl_lp hfg n (q+1) a.2 (F ++ a.1) (by omega)
theorem loop_c {K m lo n:Nat} {w:World} {tv:Value} {F0:List T} {B Bb:Nat} {Pv:Value} {sv:Sz} {r num:Int} {L:List C} {ka:Option Addr} {kc:Nat} {caps:Array Value} {f:Nat->Int->Except Nat (List T × Int)} (h:Wr K m w B Bb Pv sv r L) (hr:0<=r/\r<=65536) (hb:Bt lo w Bb Pv.ownBlock tv F0) (hFr:(F0.length:Int)+r<=65536) (hn:n<=100000)
  (hf:∀ q x a,0<=x->f q x=.ok a->(a.1.length:Int)+a.2<=x/\0<=a.2)
  (hone:∀ q,q<n->∀ W Pv' x F tv',Fm B Bb Pv.ownBlock tv.ownBlock w W->Wr K m W B Bb Pv' sv x L->Bt lo W Bb Pv'.ownBlock tv' F->(F.length:Int)+x<=65536->0<=x->(Pv'.ownBlock=Pv.ownBlock \/ ∃ y,Pv'.ownBlock=some y/\w.heap.size<=y)->(tv'.ownBlock=tv.ownBlock \/ ∃ y,tv'.ownBlock=some y/\w.heap.size<=y)->Calls prog 119 (#[.int .i64 q] ++ caps) W fun e w'=>LR (Rs K m B Bb sv L) lo B Bb Pv'.ownBlock tv' F W (f q x) e w') :
  Calls prog 201 #[ptr Bb,.int .i64 num,.slice ka n kc,.func (.func 119) #[] caps] w fun e w'=>LR (Rs K m B Bb sv L) lo B Bb Pv.ownBlock tv F0 w (gl f n 0 r []) e w':=by
 have HFF:=hid hf;have HON:=hid hone;have HW:=hid h;have HBT:=hid hb;obtain⟨T0,hT⟩ : ∃ T0,gl f n 0 r []=T0:=⟨_,rfl⟩;rw[hT];have HT:=hid hT;clear h hb hf hone hT;go_enter func201,ntmps201;go_wp2_with fail
 go_loopw [11] (fun i wr=>∃ (q:Nat) (x:Int) (F:List T) (Pv' tv':Value),i=.int .i64 q/\q<=n/\gl f (n - q) q x F=T0/\Wr K m wr B Bb Pv' sv x L/\Bt lo wr Bb Pv'.ownBlock tv' (F0 ++ F)/\((F0 ++ F).length:Int)+x<=65536/\0<=x/\Fm B Bb Pv.ownBlock tv.ownBlock w wr/\(Pv'.ownBlock=Pv.ownBlock \/ ∃ y,Pv'.ownBlock=some y/\w.heap.size<=y)/\(tv'.ownBlock=tv.ownBlock \/ ∃ y,tv'.ownBlock=some y/\w.heap.size<=y)) (fun i _=>n - (intOf i).toNat)
 case atStart=>exact⟨0,r,[],Pv,tv,rfl,by omega,HT.out,HW.out,by rw[List.append_nil];exact HBT.out,by rw[List.append_nil];exact hFr,hr.1,⟨fun _ _ _ _ _=>Below.refl _ _,Nat.le_refl _,fun _ _ _ _ _ _=>rfl⟩,.inl rfl,.inl rfl⟩
 case round=>
  clear HT;obtain⟨q,x,F,Pv',tv',rfl,hq,hM,hwr,hbt,hFx,hx0,hfm,hpx,htx⟩:=hrel;have HTX:=hid htx;have HWR:=hid hwr;have HFm:=hid hfm;have HPX:=hid hpx;have hsz:=hfm.size;by_cases hlt:q<n
  ·have d0:decide ((q:Int)<(n:Int))=true:=by simp;omega
   have cN:=HON.out q hlt wr Pv' x (F0 ++ F) tv' hfm hwr hbt hFx hx0 hpx htx;obtain⟨U,hU⟩ : ∃ U,f q x=U:=⟨_,rfl⟩;rw[hU] at cN;have hM2:bnd U (fun a=>gl f (n - (q+1)) (q+1) a.2 (F ++ a.1))=T0:=by
    rw[<- hU,<- hM,show n - q=(n - (q+1))+1 by omega];rfl
   have HM:=hid hM2;have HUE:=hid hU;have HC:Hid (∀ W2,Fm B Bb Pv'.ownBlock tv'.ownBlock wr W2->Fm B Bb Pv.ownBlock tv.ownBlock w W2):=by
    intro W2 h2;have hnx:∀ b,b<w.heap.size->some b≠Pv.ownBlock->some b≠Pv'.ownBlock:=by
     intro b h3 h4 e;rcases HPX.out with k|⟨y,k,hy⟩
     ·exact h4 (e.trans k)
     ·rw[k] at e
      have:=Option.some.inj e;omega
    refine⟨fun n h3 h4 h5 h6=>(HFm.out.below n h3 h4 h5 h6).trans (h2.below n h3 h4 (fun y e=>?_) (fun y e=>?_)),by have:=h2.size;omega,fun b h3 h4 h5 h6 h7=>?_⟩
    ·rcases HPX.out with k|⟨z,k,hz⟩
     ·exact h5 y (k ▸ e)
     ·rw[k] at e
      have:=Option.some.inj e;have:=HW.out.lt;omega
    ·rcases HTX.out with k|⟨z,k,hz⟩
     ·exact h6 y (k ▸ e)
     ·rw[k] at e
      have:=Option.some.inj e;have:=HW.out.lt;omega
    ·rw[h2.other b (by omega) h4 h5 (hnx b h3 h6) (fun e=>by
      rcases HTX.out with k|⟨z,k,hz⟩
      ·exact h7 (e.trans k)
      ·rw[k] at e
       have:=Option.some.inj e;omega),HFm.out.other b h3 h4 h5 h6 h7]
   clear hU hM hM2 hwr hbt hfm hpx htx;go_wp2_with fail
   refine cN.mono ?_;intro ee W2 hA2;cases U with
   | error z=>
    obtain⟨rfl,hf2⟩:=hA2;have hT:=HM.out;subst hT;exact⟨rfl,rfl,HC.out W2 hf2⟩
   | ok aa=>
    obtain⟨⟨v8,rfl⟩,hf2,X2,tv2,hx2,hx3,⟨Pv2,hP2,hwr2⟩,hbt2,hat2⟩:=hA2;subst hP2;have hfa:=HFF.out q x aa hx0 HUE.out;have HE:Hid (∃ (q':Nat) (x:Int) (F:List T) (Pv' tv':Value),q'=q+1/\gl f (n - q') q' x F=T0/\Wr K m W2 B Bb Pv' sv x L/\Bt lo W2 Bb Pv'.ownBlock tv' (F0 ++ F)/\((F0 ++ F).length:Int)+x<=65536/\0<=x/\Fm B Bb Pv.ownBlock tv.ownBlock w W2/\(Pv'.ownBlock=Pv.ownBlock \/ ∃ y,Pv'.ownBlock=some y/\w.heap.size<=y)/\(tv'.ownBlock=tv.ownBlock \/ ∃ y,tv'.ownBlock=some y/\w.heap.size<=y)):=by
     refine⟨q+1,aa.2,F ++ aa.1,Pv2,tv2,rfl,HM.out,hwr2,by rw[<- List.append_assoc];exact hbt2,by rw[<- List.append_assoc,List.length_append];omega,hfa.2,HC.out W2 hf2,?_,?_⟩
     ·rcases hx2 with k|⟨y,k,hy⟩
      ·rcases HPX.out with k'|⟨y,k',hy⟩
       ·exact .inl (k.trans k')
       ·exact .inr ⟨y,k.trans k',hy⟩
      ·exact .inr ⟨y,k,by omega⟩
     ·rcases hat2 with k|⟨y,k,hy⟩
      ·rcases HTX.out with k'|⟨y,k',hy⟩
       ·exact .inl (k.trans k')
       ·exact .inr ⟨y,k.trans k',hy⟩
      ·exact .inr ⟨y,k,by omega⟩
    clear hwr2 hbt2 hx2 hx3 hf2 hfa cN hat2;go_wp2_with fail
    go_roundw
    case rel=>
     obtain⟨q',x',F',Pv3,tv3,rfl,h1,h2,h3,h4,h5,h6,h7⟩:=HE.out;exact⟨q+1,x',F',Pv3,tv3,by go_num,by omega,h1,h2,h3,h4,h5,h6,h7⟩
    case measure=>simp only [intOf];omega
  ·obtain rfl:q=n:=by omega
   have hnlt:decide ((q:Int)<(q:Int))=false:=by simp
   rw[Nat.sub_self] at hM;have HM:=hid hM;have HBt:=hid hbt;clear hM hwr hbt hfm hpx htx;go_wp2_with fail
   go_end0
   have hT:=HM.out;subst hT;exact⟨⟨_,rfl⟩,HFm.out,Pv'.ownBlock,tv',HPX.out,fun y e=>(HWR.out.xb y e).2.1,⟨Pv',rfl,HWR.out⟩,HBt.out,HTX.out⟩
end Go.Proofs.YtdolgmmldncfkaaGreatDoor.GLB

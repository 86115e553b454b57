import Derived.Deep.RegionHeld3
import Derived.Test.YtdolgmmldncfkaaGreatDoorPJ02
import Derived.Test.YtdolgmmldncfkaaGreatDoorPJ03
import Derived.Test.YtdolgmmldncfkaaGreatDoorPJ35
open Go.Proofs.Tryz
set_option linter.unusedVariables false
set_option maxRecDepth 20000
set_option maxHeartbeats 6400000
namespace Go.Proofs.YtdolgmmldncfkaaGreatDoor.GAw
open Go.RowKit Base KBase JPure VSm VJn GPl GVa GRe GZp GRn GN2 GRd GAp GEi GEv
open VPure hiding evL
open TBase (T)
open KVp (szL szL_cons szL_nil)
open Shallow (dep)
theorem numE_c (x:Int) (w:World):Calls prog 9 #[.int .i64 x] w fun e w'=>e=.returned (.int .i64 x)/\w=w':=by
 go_enter func9,ntmps9;go_wp2_with fail
 go_ret
 exact⟨rfl,rfl⟩
theorem rw_one {α:Type} {n z:Nat} {Ly:World->Nat->Nat->Value->Prop} {rm:Value} {S:Nat->Prop} {w:World} {P:Value->α->Prop} {g:Nat} {u:Value} {c:α} (hS:S g) (hL:Ly w g 0 u) (hP:P u c) (hz:z<=1000):Rw n z Ly rm false S w P (.slice (some ⟨g,0,none⟩) 1 1) [c]:=by
 refine⟨some ⟨g,0,none⟩,1,rfl,by simp,by omega,by simp;omega,(fun h=>by cases h),.inr ⟨g,0,rfl,hS,fun j hj=>?_,(fun h=>by cases h)⟩⟩;have:j=0:=by simp at hj;omega
 subst this;exact⟨u,by simpa using hL,hP⟩
theorem co_at {w:World} {g:Nat} {v0 v1 v2 v3 v4 v5 v6:Value} {t:TypeId} (h:w.heap[g]? = some (.cells #[v0,v1,v2,v3,v4,v5,v6] t (0,0))):Co7 w g 0 (.agg #[v0,v1,v2,v3,v4,v5,v6]):=by
 obtain⟨c0,c1,c2,c3,c4,c5,c6⟩:=GSz.seven_b h;exact⟨v0,v1,v2,v3,v4,v5,v6,rfl,c0,c1,c2,c3,c4,c5,c6⟩
theorem pt_at {w:World} {g:Nat} {v0 v1 v2 v3 v4 v5:Value} {t:TypeId} (h:w.heap[g]? = some (.cells #[v0,v1,v2,v3,v4,v5] t (0,0))):Pt6 w g 0 (.agg #[v0,v1,v2,v3,v4,v5]):=by
 obtain⟨c0,c1,c2,c3,c4,c5⟩:=Base.six_box h;exact⟨v0,v1,v2,v3,v4,v5,rfl,c0,c1,c2,c3,c4,c5⟩
abbrev ns:Value:=.slice none 0 0
abbrev row1 (g:Nat):Value:=.slice (some ⟨g,0,none⟩) 1 1
abbrev vV (p:Int):Value:=.agg #[.int .i64 6,.int .i64 p,.string nl,ns]
abbrev tP (p:Int):Array Value:=#[.string nl,.bool true,.int .i64 6,.int .i64 p,.string nl,ns]
abbrev tV (g:Nat):Array Value:=#[.int .i64 1,.string nl,ns,row1 g,ns,ns,ns]
abbrev eV (t:ByteArray) (g:Nat):Array Value:=#[.int .i64 2,.string t,ns,ns,ns,row1 g,ns]
theorem leaf_in (w:World) (m:Nat) (S:Nat->Prop) (p:Int) (hp:0<=p/\p<=100):XBase.In false S w (m+1) (vV p) (vE p):=XBase.In.leaf w m S 6 p nl (by omega) (by omega) (by decide)
theorem rx_nil {S:Nat->Prop} {w:World}:RX false S w (.slice none 0 0) []:=⟨1,none,0,rfl,by simp,by simp,by simp,fun _=>rfl,.inl ⟨rfl,rfl⟩⟩
theorem t_in {w:World} {S:Nat->Prop} {g:Nat} {p:Int} (hp:0<=p/\p<=100) (hS:S g) (h:w.heap[g]? = some (.cells (tP p) 65 (0,0))):KBase.In false S w 1 (.agg (tV g)) (tC p):=by
 rw[in_succ];exact⟨_,_,_,_,_,rfl,by simp [tC, Co.k],by show nl.size<=_;decide,Rw.nil,rw_one hS (pt_at h) ⟨1,_,_,_,_,rfl,by show nl.size<=_;decide,leaf_in w 0 _ p hp⟩ (by omega),rx_nil,Rw.nil,Rw.nil⟩
theorem e_in {w:World} {S:Nat->Prop} {g g':Nat} {t:ByteArray} {p:Int} (ht:t.size<=1000) (hp:0<=p/\p<=100) (hS:S g) (hS':S g') (h:w.heap[g]? = some (.cells (tP p) 65 (0,0))) (h':w.heap[g']? = some (.cells (tV g) 42 (0,0))):KBase.In false S w 2 (.agg (eV t g')) (eC t p):=by
 rw[in_succ];exact⟨_,_,_,_,_,rfl,by simp [eC, Co.k],by show t.size<=_;omega,Rw.nil,Rw.nil,rx_nil,rw_one hS' (co_at h') (t_in hp hS h) (by omega),Rw.nil⟩
theorem zero_c (w:World):Calls prog 13 #[] w fun e w'=>e=.returned (vV 0)/\Below w.heap.size w w':=by
 obtain⟨W,hW⟩ : ∃ W,w.alloc (.cells #[.int .i64 6,.int .i64 0,.string nl,ns] 44)=W:=⟨_,rfl⟩;have b0:=alB hW;have h0:=alG hW;have HW:=hid hW;have H0:=hid h0;clear hW h0;go_enter func13,ntmps13;go_wp2_with fail
 rw[HW.out];refine bodyPost_ret (results_cell_row rfl _ W w.heap.size 44 _ (0,0) _ rfl H0.out underlying44 rfl (by kernel_rfl)) rfl ?_;exact⟨rfl,b0⟩
abbrev iVv (i:Int):Value:=.agg #[.int .i64 3,.bool false,.int .i64 i,.string nl,ns,ns]
theorem num_c (i:Int) (w:World):Calls prog 14 #[.int .i64 i] w fun e w'=>e=.returned (iVv i)/\Below w.heap.size w w':=by
 obtain⟨W,hW⟩ : ∃ W,w.alloc (.cells #[.int .i64 3,.bool false,.int .i64 i,.string nl,ns,ns] 26)=W:=⟨_,rfl⟩;have b0:=alB hW;have h0:=alG hW;have HW:=hid hW;have H0:=hid h0;clear hW h0;go_enter func14,ntmps14;go_wp2_with fail
 rw[HW.out];refine bodyPost_ret (results_cell_row rfl _ W w.heap.size 26 _ (0,0) _ rfl H0.out underlying26 rfl (by kernel_rfl)) rfl ?_;exact⟨rfl,b0⟩
theorem text_c (p:Int) (w:World):Calls prog 12 #[vV p] w fun e w'=>∃ g,e=.returned (.agg (tV g))/\Below w.heap.size w w'/\w.heap.size<=g/\w'.heap[g]? = some (.cells (tP p) 65 (0,0)):=by
 obtain⟨W0,hW0⟩ : ∃ W,(w.alloc (.cells #[.int .i64 6,.int .i64 p,.string nl,ns] 44)).alloc (.cells #[.int .i64 0,.string nl,ns,ns,ns,ns,ns] 42)=W:=⟨_,rfl⟩;have b0:Below w.heap.size w W0:=by rw[<- hW0];exact ((Below.refl _ w).alloc (Nat.le_refl _) _).alloc (by simp) _
 have s0:W0.heap.size=w.heap.size+2:=by rw[<- hW0];simp
 have h0:W0.heap[w.heap.size]? = some (.cells #[.int .i64 6,.int .i64 p,.string nl,ns] 44 (0,0)):=by rw[<- hW0,Below.heap_alloc _ _ _ (by simp),heap_alloc_new]
 have h1:W0.heap[w.heap.size+1]? = some (.cells #[.int .i64 0,.string nl,ns,ns,ns,ns,ns] 42 (0,0)):=by
  rw[<- hW0];have:=heap_alloc_new (w.alloc (.cells #[.int .i64 6,.int .i64 p,.string nl,ns] 44)) (.cells #[.int .i64 0,.string nl,ns,ns,ns,ns,ns] 42);rwa [World.size_alloc] at this
 obtain⟨W1,hW1⟩ : ∃ W,W0.alloc (.cells (tP p) 65)=W:=⟨_,rfl⟩;have b1:=alB hW1;have g1:=alG hW1;have k1:W1.heap[w.heap.size+1]? = some (.cells #[.int .i64 0,.string nl,ns,ns,ns,ns,ns] 42 (0,0)):=(b1.block _ (by omega)).trans h1;obtain⟨W9,hW9⟩:=stc7 W1 (w.heap.size+1) (.int .i64 1) (.string nl) ns (row1 W0.heap.size) ns ns ns;have b9:Below w.heap.size w W9:=by
  rw[<- hW9];have hb:Below w.heap.size w W1:=b0.trans (b1.mono (by omega));exact ((((((hb.setCell (by simp) _).setCell (by simp) _).setCell (by simp) _).setCell (by simp) _).setCell (by simp) _).setCell (by simp) _).setCell (by simp) _
 have g9:W9.heap[W0.heap.size]? = some (.cells (tP p) 65 (0,0)):=by
  rw[<- hW9];have ho:∀ (W:World) (j:Nat) (v:Value),(W.setCell ⟨w.heap.size+1,j,none⟩ v).heap[W0.heap.size]? = W.heap[W0.heap.size]?:=fun W j v=>Below.heap_setCell _ _ _ _ (by show W0.heap.size≠w.heap.size+1;omega)
  rw[ho,ho,ho,ho,ho,ho,ho];exact g1
 have k9:W9.heap[w.heap.size+1]? = some (.cells (tV W0.heap.size) 42 (0,0)):=by
  rw[<- hW9];exact GTr.heap_set _ _ _ _ _ _ (GTr.heap_set _ _ _ _ _ _ (GTr.heap_set _ _ _ _ _ _ (GTr.heap_set _ _ _ _ _ _ (GTr.heap_set _ _ _ _ _ _ (GTr.heap_set _ _ _ _ _ _ (GTr.heap_set _ _ _ _ _ _ k1))))))
 obtain⟨x0,x1,x2,x3⟩:=XBase.four_box h0;obtain⟨z0,z1,z2,z3,z4,z5,z6⟩:=GSz.seven_b k1;obtain⟨f0,f1,f2,f3,f4,f5,f6⟩:=Base.frz7 k1;have HW1:=hid hW1;have HW9:=hid hW9;have HB9:=hid b9;have HG9:=hid g9;have HK9:=hid k9;have HS0:=hid s0;have hle:w.heap.size<=W0.heap.size:=by omega
 clear b0 h0 h1 b1 g1 k1 b9 g9 k9 hW9 s0;go_enter func12,ntmps12;go_wp2_with fail
 try rw[HW9.out]
 refine bodyPost_ret (results_cell_row rfl _ W9 (w.heap.size+1) 42 _ (0,0) _ rfl HK9.out underlying42 rfl (by kernel_rfl)) rfl ?_;exact⟨_,rfl,HB9.out,hle,HG9.out⟩
theorem tree1 {S:Nat->Prop} {w:World} {m:Nat} {tv:Value} {t x:ByteArray} {n:List (ByteArray × ByteArray)} {ks:List T} (h:TBase.InL false S w m tv [T.mk t x n ks]) :
  ∃ g o cap av kv m',tv=.slice (some ⟨g,o,none⟩) 1 cap/\1<=cap/\cap<=9223372036854775807/\w.cell? ⟨g,o,none⟩=some (.string t)/\w.cell? ⟨g,o+1,none⟩=some (.string x)/\w.cell? ⟨g,o+2,none⟩=some av/\w.cell? ⟨g,o+3,none⟩=some kv/\TBase.Ax false S w av n/\TBase.InL false S w m' kv ks:=by
 obtain⟨a,cap,rfl,h1,h2,-,-,hL⟩:=h;obtain⟨g,o,u,rfl,-,hu,hi⟩:=TBase.elem_at hL (q:=0) (by simp);simp only [List.getElem_cons_zero] at hi;obtain⟨m',nv,lv,-,rfl,-,-,hA,hK⟩:=hi.shape;obtain⟨v0,v1,v2,v3,he,c0,c1,c2,c3⟩:=hu;simp only [Value.agg.injEq, Array.mk.injEq, List.cons.injEq, and_true] at he;obtain⟨rfl,rfl,rfl,rfl⟩:=he;simp only [Nat.zero_mul, Nat.add_zero] at c0 c1 c2 c3;exact⟨g,o,cap,nv,lv,m',rfl,by simpa using h1,h2,c0,c1,c2,c3,hA,hK⟩
def lC:C:=.mk 5 false 0 nl [] []
theorem in_val (S:Nat->Prop) (w:World) (m:Nat) (k i:Int) (hk:1<=k/\k<=6) (hi : -9223372036854775808<=i/\i<=9223372036854775807):Base.In false S w (m+1) (.agg #[.int .i64 k,.bool false,.int .i64 i,.string nl,ns,ns]) (.mk k false i nl [] []):=by
 rw[Base.in_iff];exact⟨_,_,rfl,by omega,hi,by decide,⟨none,0,rfl,by simp,by omega,by simp,by simp,fun _=>rfl,.inl ⟨rfl,rfl⟩⟩,⟨none,0,rfl,by simp,by simp [maxLen],by simp,fun _=>rfl,.inl ⟨rfl,rfl⟩⟩⟩
theorem dep_flat (k i:Int) (b:Bool) (s:ByteArray):dep (.mk k b i s [] [])<=4096:=by simp [Shallow.dep, Shallow.depL]
theorem tg0:Pure.tg ⟨#[]⟩=true:=by
 have h:UBase.verr ⟨#[]⟩=0:=by
  unfold UBase.verr;rw[UBase.bad_end (by decide)];rfl
 simp [Pure.tg, h]
 decide
theorem ms_num (i:Int):(Measure.ms 0 0 (Walk.pl 1 (iV i))).2.2=0:=by
 have h:Fault.fm (iV i)=true:=by simp [Fault.fm, iV, Pure.pu, tg0, C.k, C.b, C.i, C.s, C.n, C.l]
 have hk:(iV i).k=3:=rfl;have hp:Walk.pl 1 (iV i)=[(1,iV i)]:=by simp [iV, Walk.pl, Walk.plL]
 have hf:Fault.ft (iV i) 1 1=0:=by simp [Fault.ft, h, hk]
 rw[hp];simp [Measure.ms, hf]
theorem ms_list:(Measure.ms 0 0 (Walk.pl 1 lC)).2.2=0:=by
 have h:Fault.fm lC=true:=by simp [Fault.fm, lC, Pure.pu, tg0, C.k, C.b, C.i, C.s, C.n, C.l]
 have hk:lC.k=5:=rfl;have hp:Walk.pl 1 lC=[(1,lC)]:=by simp [lC, Walk.pl, Walk.plL]
 have hf:Fault.ft lC 1 1=0:=by simp [Fault.ft, h, hk]
 rw[hp];simp [Measure.ms, hf]
theorem sz_e (t:ByteArray) (p:Int):szL [eC t p]=2:=by
 rw[szL_cons,szL_nil];have e1:(eC t p).l=[tC p]:=rfl;have e2:(eC t p).u=[]:=rfl;have e3:(tC p).l=[]:=rfl;have e4:(tC p).u=[]:=rfl;rw[e1,e2,szL_cons,e3,e4,szL_nil]
theorem nd_one {K m B Bb n:Nat} {sv:GNs.Sz} {L:List C} {p:Int}:NDs K m B Bb sv (n+1) L (tC p):=text_d rfl fun j h _=>by
 have:j=0:=by simp [tC, Co.p] at h;omega
 subst this;exact gd_v p
theorem nd_two {K m B Bb n:Nat} {sv:GNs.Sz} {L:List C} {t:ByteArray} {p:Int} (hz:sv.2.1.length<=50000):NDs K m B Bb sv (n+2) L (eC t p):=by
 refine elem_d hz rfl (fun j h=>by cases h) (by show ([] : List Fld).length<=4096;simp) (fun n h=>?_) (fun d hd=>?_)
 ·have e:(eC t p).f=[]:=rfl
  rw[e,GAs.ats] at h;injection h with h
  subst h;exact⟨by simp,fun t ht=>by cases ht⟩
 ·have e:(eC t p).l=[tC p]:=rfl
  rw[e] at hd;rw[List.mem_singleton.1 hd];exact nd_one
theorem sv_le {sv:GNs.Sz} {cs:List Co} (h:sv.2.1=zs cs) (hc:KNd.chk cs=0):sv.2.1.length<=50000:=by
 rw[h,zs_len];have:=sz_ok hc;omega
theorem rn_num (t:ByteArray) (i:Int) (hi:(Lib.itoa i).length<=4096):rnL (rn 2 [iV i]) [eC t 0] 4096 []=.ok ([T.mk t nl [] [T.mk nl ⟨(Lib.itoa i).toArray⟩ [] []]],4094):=by
 have e:tT (iV i) (4096 - 1)=.ok (T.mk nl ⟨(Lib.itoa i).toArray⟩ [] [],4094):=by
  unfold tT;rw[if_neg (by omega)];have:txt (iV i)=.ok ⟨(Lib.itoa i).toArray⟩:=rfl;rw[this];show (if 4096<(⟨(Lib.itoa i).toArray⟩ : ByteArray).size then _ else _)=_;rw[if_neg (by show ¬ 4096<(Lib.itoa i).toArray.size;simp;omega)];rfl
 rw[rnL,rn_e (rh0 _) 0 t 4096 (by omega),e];rfl
theorem rn_list (t:ByteArray):rnL (rn 2 [lC]) [eC t 0] 4096 []=.error 1101:=by
 have e:tT lC (4096 - 1)=.error 1101:=by
  unfold tT;rw[if_neg (by omega)];rfl
 rw[rnL,rn_e (rh0 _) 0 t 4096 (by omega),e];rfl
theorem it7:Lib.itoa 7=[55]:=by decide +kernel
theorem l7:(Lib.itoa 7).length<=4096:=by rw[it7];decide
theorem ok_ne {α:Type} {a:α}:(Except.ok a:Except Nat α) ≠ .error 0:=fun h=>by cases h
theorem rend_c {w:World} {cv v:Value} {c:C} (hcs:KBase.InL false (fun b=>b<w.heap.size) w 2 cv [eC ⟨#[112]⟩ 0]) (hin:Base.In false (fun b=>b<w.heap.size) w 1 v c) (hdep:dep c<=4096) (hms:(Measure.ms 0 0 (Walk.pl 1 c)).2.2=0) (ht:Tb w) (hA0:rnL (rn 2 [c]) [eC ⟨#[112]⟩ 0] 4096 [] ≠ .error 0) :
  Calls prog 7 #[cv,v] w fun e w'=>RR w (bnd (rnL (rn 2 [c]) [eC ⟨#[112]⟩ 0] 4096 []) fun a=>.ok a.1) e w':=
 render_c (m:=0) hcs hin (by rw[sz_e];omega) chk_e hdep hms ht hA0 fun B Bb sv hz d hd=>by
  rw[List.mem_singleton.1 hd];exact nd_two (n:=0) (sv_le hz chk_e)
theorem awake_c (w:World) (ht:Tb w):Calls prog 4 #[] w fun e w'=>e=.returned (.bool true)/\Below w.heap.size w w':=by
 have HT:=hid ht;have cZ:=zero_c w;clear ht;go_enter func4,ntmps4;go_wp2_with fail
 refine cZ.mono ?_;rintro e W1 ⟨rfl,b1⟩;have cX:=text_c 0 W1;have HB1:=hid b1;clear cZ b1;go_wp2_with fail
 refine cX.mono ?_;rintro e W2 ⟨g,rfl,b2,hg1,hg2⟩;have hgl:=(Array.getElem?_eq_some_iff.1 hg2).1;have HB2:=hid (HB1.out.trans (b2.mono HB1.out.size));obtain⟨W4,hW4⟩ : ∃ W,(W2.alloc (.cells (tV g) 42)).alloc (.cells (eV ⟨#[112]⟩ W2.heap.size) 42)=W:=⟨_,rfl⟩;have b4:Below W2.heap.size W2 W4:=by rw[<- hW4];exact ((Below.refl _ W2).alloc (Nat.le_refl _) _).alloc (by simp) _
 have s4:W4.heap.size=W2.heap.size+2:=by rw[<- hW4];simp
 have h40:W4.heap[W2.heap.size]? = some (.cells (tV g) 42 (0,0)):=by rw[<- hW4,Below.heap_alloc _ _ _ (by simp),heap_alloc_new]
 have h41:W4.heap[W2.heap.size+1]? = some (.cells (eV ⟨#[112]⟩ W2.heap.size) 42 (0,0)):=by
  rw[<- hW4];have:=heap_alloc_new (W2.alloc (.cells (tV g) 42)) (.cells (eV ⟨#[112]⟩ W2.heap.size) 42);rwa [World.size_alloc] at this
 have h4g:=(b4.block g hgl).trans hg2;have HB4:=hid (HB2.out.trans (b4.mono HB2.out.size));have HCS:Hid (∀ W,Below W4.heap.size W4 W->KBase.InL false (fun b=>b<W.heap.size) W 2 (row1 (W2.heap.size+1)) [eC ⟨#[112]⟩ 0]):=fun W hW=>by
  have:=hW.size;exact rw_one (by show _<_;omega) (co_at ((hW.block _ (by omega)).trans h41)) (e_in (by decide) (by omega) (by show _<_;omega) (by show _<_;omega) ((hW.block _ (by omega)).trans h4g) ((hW.block _ (by omega)).trans h40)) (by omega)
 have HW4:=hid hW4;have HS4:=hid s4;have c7:=num_c 7 W4;clear cX b2 hg1 hg2 hgl b4 h40 h41 h4g hW4 s4;go_wp2_with fail
 try rw[HW4.out]
 refine c7.mono ?_;rintro e W5 ⟨rfl,b5⟩;have HB5:=hid (HB4.out.trans (b5.mono HB4.out.size));have H45:=hid b5;have cR:=rend_c (HCS.out W5 b5) (in_val _ W5 0 3 7 (by omega) (by omega)) (dep_flat 3 7 false nl) (ms_num 7) (HT.out.below HB5.out) (by have:=rn_num ⟨#[112]⟩ 7 l7;show rnL (rn 2 [iV 7]) _ _ _≠_;rw[this];exact ok_ne);have hr:bnd (rnL (rn 2 [iV 7]) [eC ⟨#[112]⟩ 0] 4096 []) (fun a=>(.ok a.1:Except Nat (List T)))=.ok [T.mk ⟨#[112]⟩ nl [] [T.mk nl ⟨#[55]⟩ [] []]]:=by rw[rn_num ⟨#[112]⟩ 7 l7,it7];rfl
 have cR:Calls prog 7 #[row1 (W2.heap.size+1),iVv 7] W5 fun e w'=>RR W5 (.ok [T.mk ⟨#[112]⟩ nl [] [T.mk nl ⟨#[55]⟩ [] []]]) e w':=by rw[<- hr];exact cR
 clear c7 b5 hr;go_wp2_with fail
 refine cR.mono ?_;rintro e W6 ⟨b6,m6,tv,rfl,hin6⟩;have HB6:=hid (HB5.out.trans (b6.mono HB5.out.size));have H46:=hid (H45.out.trans (b6.mono H45.out.size));have HIN:=hid hin6;obtain⟨tg,tO,tcap,av,kv,m',rfl,ht1,ht2,-⟩:=tree1 hin6;have cR2:=rend_c (HCS.out W6 H46.out) (in_val _ W6 0 5 0 (by omega) (by omega)) (dep_flat 5 0 false nl) ms_list (HT.out.below HB6.out) (by have:=rn_list ⟨#[112]⟩;show rnL (rn 2 [lC]) _ _ _≠_;rw[this];exact fun h=>by cases h);have hr:bnd (rnL (rn 2 [lC]) [eC ⟨#[112]⟩ 0] 4096 []) (fun a=>(.ok a.1:Except Nat (List T)))=.error 1101:=by rw[rn_list ⟨#[112]⟩];rfl
 have cR2:Calls prog 7 #[row1 (W2.heap.size+1),.agg #[.int .i64 5,.bool false,.int .i64 0,.string nl,ns,ns]] W6 fun e w'=>RR W6 (.error 1101) e w':=by rw[<- hr];exact cR2
 clear cR b6 hin6 hr;go_wp2_with fail
 refine cR2.mono ?_;rintro e W7 ⟨b7,rfl⟩;have HB7:=hid (HB6.out.trans (b7.mono HB6.out.size));have H67:=hid b7;have cZ:=zero_c W7;clear cR2 b7;go_wp2_with fail
 refine cZ.mono ?_;rintro e W8 ⟨rfl,b8⟩;have HB8:=hid (HB7.out.trans (b8.mono HB7.out.size));have H68:=hid (H67.out.trans (b8.mono H67.out.size));have c5:=num_c 5 W8;clear cZ b8;go_wp2_with fail
 refine c5.mono ?_;rintro e W9 ⟨rfl,b9⟩;have HB9:=hid (HB8.out.trans (b9.mono HB8.out.size));have H69:=hid (H68.out.trans (b9.mono H68.out.size));obtain⟨Wa,hWa⟩ : ∃ W,W9.alloc (.cells #[.int .i64 3,.bool false,.int .i64 5,.string nl,ns,ns] 26)=W:=⟨_,rfl⟩;have ba:=alB hWa;have sa:Wa.heap.size=W9.heap.size+1:=by rw[<- hWa];simp
 have ga:=alG hWa;have HBa:=hid (HB9.out.trans (ba.mono HB9.out.size));have H6a:=hid (H69.out.trans (ba.mono H69.out.size));obtain⟨c0,c1,c2,c3,c4,c5'⟩:=Base.six_box ga;have hsix:Base.Six Wa W9.heap.size (0*6) (iVv 5):=⟨_,_,_,_,_,_,rfl,c0,c1,c2,c3,c4,c5'⟩;have hwfs:∀ (j:Int) c,rh [iV 5] j=some c->wf c:=fun j c h=>by
  unfold rh at h;split at h
  ·rw[List.mem_singleton.1 (List.mem_of_getElem? h)]
   exact GWf.code_wf (ms_num 5)
  ·cases h
 have hrk:Rk Wa.heap.size 0 1 Wa (row1 W9.heap.size) [iV 5] (vV 0) (vE 0):=⟨leaf_in Wa 0 _ 0 (by omega),Nat.le_refl _,hwfs,(gd_v 0).1,(gd_v 0).2,HT.out.below HBa.out,some ⟨W9.heap.size,0,none⟩,1,rfl,by simp,by simp,by omega,fun j hj=>by
   obtain rfl:j=0:=by simpa using hj
   exact⟨W9.heap.size,_,rfl,hsix,in_val _ Wa 0 3 5 (by omega) (by omega)⟩⟩
 have hL:Base.InL false All Wa 1 (row1 W9.heap.size) [iV 5]:=⟨some ⟨W9.heap.size,0,none⟩,1,rfl,by simp,by simp [maxLen],by simp,(fun h=>by cases h),.inr ⟨W9.heap.size,0,rfl,trivial,fun j hj=>by
   obtain rfl:j=0:=by simpa using hj
   exact⟨iVv 5,by simpa using hsix,in_val _ Wa 0 3 5 (by omega) (by omega)⟩,(fun h=>by cases h)⟩⟩
 have hev:ev (rh [iV 5]) (vE 0)=.ok (iV 5):=ev_v (rh0 _);have cE:=eval_of hrk hL (fun c hc=>by rw[List.mem_singleton.1 hc];exact dep_flat 3 5 false nl) (rs_v 0) (by simp [bd, cd, ms_num]) (by rw[hev];exact fun W v h=>GCf.flat_c W v h);rw[hev] at cE;have HWa:=hid hWa;clear c5 b9 ba ga hrk hwfs hL hsix hWa c0 c1 c2 c3 c4 c5' hev sa;go_wp2_with fail
 try rw[HWa.out]
 refine cE.mono ?_;rintro e Wb ⟨kb,u,rfl,hinb,bb⟩;obtain⟨an,ln,cn,al,ll,cl,rfl⟩:=VRs.in_shape hinb;have hvi:(va (.ok (iV 5))).i=5:=rfl;rw[hvi] at *;have HBb:=hid (HBa.out.trans (bb.mono HBa.out.size));have H6b:=hid (H6a.out.trans (bb.mono H6a.out.size));generalize (va (.ok (iV 5))).k=kk at *
 generalize (va (.ok (iV 5))).b=kb' at *
 generalize (va (.ok (iV 5))).s=ks at *
 obtain⟨Wc,hWc⟩ : ∃ W,Wb.alloc (.cells #[.int .i64 kk,.bool kb',.int .i64 5,.string ks,.slice an ln cn,.slice al ll cl] 26)=W:=⟨_,rfl⟩;have bc:=alB hWc;have gc:=alG hWc;have HBc:=hid (HBb.out.trans (bc.mono HBb.out.size));have H6c:=hid (H6b.out.trans (bc.mono H6b.out.size));obtain⟨-,-,y2,-,-,-⟩:=Base.six_box gc;obtain⟨tg',tO',tcap',av',kv',m'',he,-,-,t0,t1,t2,t3,-,hk⟩:=tree1 HIN.out;cases he;obtain⟨ug,uo,ucap,av2,kv2,m3,rfl,hu1,hu2,u0,u1,u2,u3,-,-⟩:=tree1 hk;have t0:=Base.below_cell t0 H6c.out;have t3:=Base.below_cell t3 H6c.out;have u1:=Base.below_cell u1 H6c.out;have hz:er (.ok (iV 5))=0:=rfl;rw[hz];have cN:∀ (x:Int) (W:World),Calls prog 9 #[.int .i64 x] W fun e w'=>e=.returned (.int .i64 x)/\W=w':=numE_c
 have HWc:=hid hWc;clear hWc cE hinb bb bc gc hk hvi hz t1 t2 u0 u2 u3;go_wp2_with fail
 try rw[HWc.out]
 refine (cN _ _).mono ?_;rintro e w9 ⟨rfl,h9⟩;obtain rfl:=h9;go_wp2_with fail
 refine (cN _ _).mono ?_;rintro e w9 ⟨rfl,h9⟩;obtain rfl:=h9;go_wp2_with fail
 refine (cN _ _).mono ?_;rintro e w9 ⟨rfl,h9⟩;obtain rfl:=h9;go_wp2_with fail
 go_ret
 exact⟨rfl,HBc.out⟩
end Go.Proofs.YtdolgmmldncfkaaGreatDoor.GAw
namespace Go.Proofs.YtdolgmmldncfkaaGreatDoor.XSh
open Go.RowKit EPure XBase
open Base (All heap_alloc_new)
def Dp (m:Nat):Prop:=∀ (v:Value) (x:Ex) (left:Nat) (w:World),left<=4096->In false All w m v x ->
  Calls prog 51 #[v,.int .i64 left] w fun e w'=>(∃ b,e=.returned (.bool b))/\Below w.heap.size w w'
theorem dp_of (m:Nat) (ih:Dp m):Dp (m+1):=by
 intro v x left w hleft h;obtain⟨o,i,s,l⟩:=x;rw[in_iff] at h;obtain⟨lv,rfl,ho,hi,hs,a,cap,rfl,hl,hcap,hlen,ha,hL⟩:=h;have H:Hid (Dp m):=ih;obtain⟨W0,hW0⟩ : ∃ W0,w.alloc (.cells #[.int .i64 o,.int .i64 i,.string s,.slice a l.length cap] 44)=W0:=⟨_,rfl⟩;have b0:Below w.heap.size w W0:=by rw[<- hW0];exact (Below.refl _ w).alloc (Nat.le_refl _) _
 have s0:W0.heap.size=w.heap.size+1:=by rw[<- hW0];simp
 have hx:W0.heap[w.heap.size]? = some (.cells #[.int .i64 o,.int .i64 i,.string s,.slice a l.length cap] 44 (0,0)):=by rw[<- hW0];exact heap_alloc_new w _
 have HX:Hid (W0.heap[w.heap.size]? = some (.cells #[.int .i64 o,.int .i64 i,.string s,.slice a l.length cap] 44 (0,0))/\W0.heap.size=w.heap.size+1/\Below w.heap.size w W0):=⟨hx,s0,b0⟩;clear ih hx s0 b0;by_cases h0:left=0
 ·subst h0
  clear hL;go_enter func51,ntmps51;go_wp2_with fail
  go_ret
  exact⟨⟨_,rfl⟩,HX.out.2.2⟩
 ·have h0':((left:Int) == 0)=false:=by simp;omega
  go_enter func51,ntmps51;go_wp2_with fail
  clear hW0;go_loopw [5] (fun i' wr=>∃ q:Nat,q<=l.length/\i'=.int .i64 q/\Below W0.heap.size W0 wr) (fun i' _=>l.length - (intOf i').toNat)
  case atStart=>exact⟨0,by omega,rfl,Below.refl _ _⟩
  case round=>
   obtain⟨q,hq,rfl,hb⟩:=hrel;have hbx:=(hb.block w.heap.size (by have:=HX.out.2.1;omega)).trans HX.out.1;obtain⟨y0,y1,y2,y3⟩:=four_box hbx;have hbw:Below w.heap.size w wr:=HX.out.2.2.trans (hb.mono (by have:=HX.out.2.1;omega));have HB:Hid (Below W0.heap.size W0 wr/\Below w.heap.size w wr):=⟨hb,hbw⟩;clear hbx;by_cases hlt:q<l.length
   ·obtain⟨g,o',u,rfl,-,hu,hin⟩:=elem_at hL hlt
    have hu:=four_below hu hbw;have c1:=H.out u l[q] (left - 1) wr (by omega) (hin.below hbw);obtain⟨v0,v1,v2,v3,rfl,d0,d1,d2,d3⟩:=hu;have en:((left - 1:Nat):Int)=(left:Int) - 1:=by omega
    rw[en] at c1;clear hb hbw hL hin en;go_wp2_with fail
    refine c1.mono ?_;rintro e W1 ⟨⟨b,rfl⟩,b1⟩;have HB1:Hid (Below W0.heap.size W0 W1):=HB.out.1.trans (b1.mono HB.out.1.size);clear c1 b1 y0 y1 y2 y3 d0 d1 d2 d3;cases b with
    | true=>
     go_wp2_with fail
     go_roundw
     case rel=>exact⟨q+1,by omega,by go_num,HB1.out⟩
     case measure=>simp only [intOf];omega
    | false=>
     go_wp2_with fail
     go_ret
     exact⟨⟨_,rfl⟩,HX.out.2.2.trans (HB1.out.mono (by have:=HX.out.2.1;omega))⟩
   ·have d:decide ((q:Int)<(l.length:Int))=false:=by simp;omega
    clear hL hb hbw;go_wp2_with fail
    go_ret
    exact⟨⟨_,rfl⟩,HB.out.2⟩
theorem dp:∀ m,Dp m
 | 0=>by intro v x left w _ h;rw[In] at h;exact h.elim
 | m+1=>dp_of m (dp m)
end Go.Proofs.YtdolgmmldncfkaaGreatDoor.XSh
namespace Go.Proofs.YtdolgmmldncfkaaGreatDoor.KSw
open Go.RowKit Base EPure KBase
theorem exprs_c {w:World} {fv pv xv:Value} {f:List Fld} {p:List Pt} {x:List Ex} (hF:RF false (fun _=>True) w fv f) (hP:RP false (fun _=>True) w pv p) (hX:RX false (fun _=>True) w xv x) :
  Calls prog 30 #[fv,pv,xv] w fun e w'=>(∃ b,e=.returned (.bool b))/\Below w.heap.size w w':=by
 obtain⟨a1,c1,rfl,hc1,hm1,hl1,-,hLF⟩:=hF;obtain⟨a2,c2,rfl,hc2,hm2,hl2,-,hLP⟩:=hP;obtain⟨mx,a3,c3,rfl,hc3,hm3,hl3,-,hLX⟩:=hX;have HF:=hid hLF;have HP:=hid hLP;have HX:=hid hLX;clear hLF hLP hLX;go_enter func30,ntmps30;go_wp2_with fail
 go_loopw [7] (fun i wr=>∃ q:Nat,q<=f.length/\i=.int .i64 q/\Below w.heap.size w wr) (fun i _=>f.length - (intOf i).toNat)
 case atStart=>exact⟨0,by omega,rfl,Below.refl _ _⟩
 case round=>
  obtain⟨q,hq,rfl,hb⟩:=hrel;have HB:=hid hb;by_cases hlt:q<f.length
  ·have d0:decide ((q:Int)<(f.length:Int))=true:=by simp;omega
   obtain⟨g,o,u,ha,-,hu,hi⟩:=RwAt.elem HF.out hlt;subst ha;obtain⟨v0,v1,v2,e0,e1,e2,e3,v7,rfl,-,-,-,k0,k1,k2,k3,-⟩:=hu;obtain⟨-,-,-,-,-,-,-,me,hie⟩:=hi.kinds;have k0:=below_cell k0 hb;have k1:=below_cell k1 hb;have k2:=below_cell k2 hb;have k3:=below_cell k3 hb;have cE:=XSh.dp _ _ _ 4096 wr (by omega) ((hie.weak (S':=All) (fun _ _=>trivial) false (fun h=>h) _ (Nat.le_refl _)).below hb);clear hb;go_wp2_with fail
   refine cE.mono ?_;rintro e W1 ⟨⟨b,rfl⟩,b1⟩;have HB1:=hid (nx HB.out b1);clear cE b1 k0 k1 k2 k3 hie;cases b with
   | true=>
    go_wp2_with fail
    go_roundw
    case rel=>exact⟨q+1,by omega,by go_num,HB1.out⟩
    case measure=>simp only [intOf];omega
   | false=>
    go_wp2_with fail
    go_ret
    exact⟨⟨_,rfl⟩,HB1.out⟩
  ·have dn1:decide ((q:Int)<(f.length:Int))=false:=by simp;omega
   have dm1:decide (q<f.length)=false:=by simp;omega
   clear hb;go_wp2_with fail
   obtain⟨Wa,hWa⟩ : ∃ Wa,Wa=wr:=⟨_,rfl⟩;subst hWa;go_loopw [8] (fun i wr=>∃ q:Nat,q<=p.length/\i=.int .i64 q/\Below w.heap.size w wr) (fun i _=>p.length - (intOf i).toNat)
   case atStart=>exact⟨0,by omega,rfl,HB.out⟩
   case round=>
    clear HB;obtain⟨q,hq,rfl,hb⟩:=hrel;have HB:=hid hb;by_cases hlt:q<p.length
    ·have d0:decide ((q:Int)<(p.length:Int))=true:=by simp;omega
     obtain⟨g,o,u,ha,-,hu,hi⟩:=RwAt.elem HP.out hlt;subst ha;obtain⟨v0,v1,e0,e1,e2,e3,rfl,-,-,k0,k1,k2,k3⟩:=hu;obtain⟨-,-,-,me,hie⟩:=hi.kinds;have k0:=below_cell k0 hb;have k1:=below_cell k1 hb;have k2:=below_cell k2 hb;have k3:=below_cell k3 hb;have cE:=XSh.dp _ _ _ 4096 wr (by omega) ((hie.weak (S':=All) (fun _ _=>trivial) false (fun h=>h) _ (Nat.le_refl _)).below hb);clear hb;go_wp2_with fail
     refine cE.mono ?_;rintro e W1 ⟨⟨b,rfl⟩,b1⟩;have HB1:=hid (nx HB.out b1);clear cE b1 k0 k1 k2 k3 hie;cases b with
     | true=>
      go_wp2_with fail
      go_roundw
      case rel=>exact⟨q+1,by omega,by go_num,HB1.out⟩
      case measure=>simp only [intOf];omega
     | false=>
      go_wp2_with fail
      go_ret
      exact⟨⟨_,rfl⟩,HB1.out⟩
    ·have dn2:decide ((q:Int)<(p.length:Int))=false:=by simp;omega
     have dm2:decide (q<p.length)=false:=by simp;omega
     clear hb;go_wp2_with fail
     obtain⟨Wa,hWa⟩ : ∃ Wa,Wa=wr:=⟨_,rfl⟩;subst hWa;go_loopw [9] (fun i wr=>∃ q:Nat,q<=x.length/\i=.int .i64 q/\Below w.heap.size w wr) (fun i _=>x.length - (intOf i).toNat)
     case atStart=>exact⟨0,by omega,rfl,HB.out⟩
     case round=>
      clear HB;obtain⟨q,hq,rfl,hb⟩:=hrel;have HB:=hid hb;by_cases hlt:q<x.length
      ·have d0:decide ((q:Int)<(x.length:Int))=true:=by simp;omega
       obtain⟨g,o,u,ha,-,hu,hie⟩:=XBase.elem_at HX.out hlt;subst ha;obtain⟨e0,e1,e2,e3,rfl,k0,k1,k2,k3⟩:=hu;have k0:=below_cell k0 hb;have k1:=below_cell k1 hb;have k2:=below_cell k2 hb;have k3:=below_cell k3 hb;have cE:=XSh.dp _ _ _ 4096 wr (by omega) ((hie.weak (S':=All) (fun _ _=>trivial) false (fun h=>h) _ (Nat.le_refl _)).below hb);clear hb;go_wp2_with fail
       refine cE.mono ?_;rintro e W1 ⟨⟨b,rfl⟩,b1⟩;have HB1:=hid (nx HB.out b1);clear cE b1 k0 k1 k2 k3 hie;cases b with
       | true=>
        go_wp2_with fail
        go_roundw
        case rel=>exact⟨q+1,by omega,by go_num,HB1.out⟩
        case measure=>simp only [intOf];omega
       | false=>
        go_wp2_with fail
        go_ret
        exact⟨⟨_,rfl⟩,HB1.out⟩
      ·have dn3:decide ((q:Int)<(x.length:Int))=false:=by simp;omega
       have dm3:decide (q<x.length)=false:=by simp;omega
       clear hb;go_wp2_with fail
       go_ret
       exact⟨⟨_,rfl⟩,HB.out⟩
end Go.Proofs.YtdolgmmldncfkaaGreatDoor.KSw

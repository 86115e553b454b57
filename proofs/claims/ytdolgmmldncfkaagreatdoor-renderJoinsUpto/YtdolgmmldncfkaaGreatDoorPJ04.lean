import Derived.Below
import Derived.ChangeOld
import Derived.Deep.RegionHeld3
import Derived.Deep.Strs
import Derived.OpenShut
import Derived.ProofKit
import Derived.SizedLaws
import Derived.Test.YtdolgmmldncfkaaGreatDoorRows
import Derived.WalkKit
import Derived.Test.YtdolgmmldncfkaaGreatDoorPJ03
open Go.Proofs.Tryz
set_option linter.unusedVariables false
namespace Go.Proofs.YtdolgmmldncfkaaGreatDoor.KOp
open Go.ChangeShapes Go.WideShapes Go.ChangeAt Go.RowKit EPure KBase
open Base (All add_none)
theorem cells9:prog.cellsOf 9=1:=by kernel_rfl
theorem cells3:prog.cellsOf 3=1:=by kernel_rfl
theorem cells4:prog.cellsOf 4=1:=by kernel_rfl
theorem cellsX:prog.cellsOf 44=4:=by kernel_rfl
theorem cellsP:prog.cellsOf 65=6:=by kernel_rfl
theorem cellsF:prog.cellsOf 104=8:=by kernel_rfl
theorem cellsC:prog.cellsOf 42=7:=by kernel_rfl
theorem cellsrow_x:prog.cellsOf 44=4:=cellsX
theorem cellsrow_p:prog.cellsOf 65=6:=cellsP
theorem cellsrow_f:prog.cellsOf 104=8:=cellsF
theorem cellsrow_c:prog.cellsOf 42=7:=cellsC
theorem cellsXs:prog.cellsOf 40=1:=by kernel_rfl
theorem cellsPs:prog.cellsOf 39=1:=by kernel_rfl
theorem cellsFs:prog.cellsOf 38=1:=by kernel_rfl
theorem cellsCs:prog.cellsOf 22=1:=by kernel_rfl
theorem bytesrow_x:prog.bytesOf 44=56:=by kernel_rfl
theorem bytesrow_p:prog.bytesOf 65=80:=by kernel_rfl
theorem bytesrow_f:prog.bytesOf 104=104:=by kernel_rfl
theorem bytesrow_c:prog.bytesOf 42=144:=by kernel_rfl
theorem cells_at {w:World} {a:Addr} {n:Nat} {cs:List Value} (h:w.cells? 0 a n=some cs):cs.length=n/\∀ j (hj:j<n),w.cell? (a.add j)=cs[j]?:=by
 unfold World.cells? at h;rw[if_pos (Nat.zero_le _)] at h;have hl:=mapM_some_length h;refine⟨by simpa using hl,fun j hj=>?_⟩;have:=mapM_some_get h j j (by simp [hj]);exact this
theorem list_3 {α:Type} {l:List α} (h:l.length=3):∃ c0 c1 c2,l=[c0,c1,c2]:=by
 match l,h with
 | [c0,c1,c2],_=>exact⟨c0,c1,c2,rfl⟩
theorem list_4 {α:Type} {l:List α} (h:l.length=4):∃ c0 c1 c2 c3,l=[c0,c1,c2,c3]:=by
 match l,h with
 | [c0,c1,c2,c3],_=>exact⟨c0,c1,c2,c3,rfl⟩
theorem list_5 {α:Type} {l:List α} (h:l.length=5):∃ c0 c1 c2 c3 c4,l=[c0,c1,c2,c3,c4]:=by
 match l,h with
 | [c0,c1,c2,c3,c4],_=>exact⟨c0,c1,c2,c3,c4,rfl⟩
theorem list_6 {α:Type} {l:List α} (h:l.length=6):∃ c0 c1 c2 c3 c4 c5,l=[c0,c1,c2,c3,c4,c5]:=by
 match l,h with
 | [c0,c1,c2,c3,c4,c5],_=>exact⟨c0,c1,c2,c3,c4,c5,rfl⟩
theorem list_7 {α:Type} {l:List α} (h:l.length=7):∃ c0 c1 c2 c3 c4 c5 c6,l=[c0,c1,c2,c3,c4,c5,c6]:=by
 match l,h with
 | [c0,c1,c2,c3,c4,c5,c6],_=>exact⟨c0,c1,c2,c3,c4,c5,c6,rfl⟩
theorem list_8 {α:Type} {l:List α} (h:l.length=8):∃ c0 c1 c2 c3 c4 c5 c6 c7,l=[c0,c1,c2,c3,c4,c5,c6,c7]:=by
 match l,h with
 | [c0,c1,c2,c3,c4,c5,c6,c7],_=>exact⟨c0,c1,c2,c3,c4,c5,c6,c7,rfl⟩
theorem spot_none {w:World} {a:Addr} {v:Value} (h:w.cell? (a.add 0)=some v):∃ g o,a=⟨g,o,none⟩:=by
 obtain⟨g,o,sp⟩:=a;cases sp with
 | none=>exact⟨g,o,rfl⟩
 | some x=>
  simp only [Addr.add, if_true, World.cell?] at h;split at h
  ·simp at h
  ·cases h
theorem weightsAll_mem {H:Type} {P:Program} {e:TypeId} {d:DataW H} {q:Nat}:∀ {ds:List (DataW H)},d ∈ ds->q ∈ DataW.weights P e d->q ∈ DataW.weightsAll P e ds
 | [],hd,_=>by cases hd
 | d' :: r,hd,hq=>by
  rw[DataW.weightsAll,List.mem_append];rcases List.mem_cons.1 hd with rfl|h
  ·exact .inl hq
  ·exact .inr (weightsAll_mem h hq)
section
variable {H:Type} {enc:TypeId × Value->H} {W:World}
theorem str_le {s:ByteArray} {d:DataW H} (hd:d=.lit (.string s.data.toList)) (h:∀ q ∈ DataW.weights prog 9 d,q<=reachBytes):s.size<=140737488351232:=by
 have:=h s.data.toList.length (by rw[hd];simp [DataW.weights]);simp only [reachBytes] at this;have hl:s.data.toList.length=s.size:=Array.length_toList;omega
theorem row_x {M:Nat} {fuel:Nat} {c:Value} {x:DataW H × List MemPlace} (h:DataW.trod enc prog W 0 (fun _=>true) true fuel 40 [c]=some x) (hw:∀ q ∈ DataW.weights prog 40 x.1,q<=reachBytes) (hop:∀ n',n'+1<=fuel->∀ {cs:List Value} {x:DataW H × List MemPlace},DataW.trod enc prog W 0 (fun _=>true) true n' 44 cs=some x->(∀ q ∈ DataW.weights prog 44 x.1,q<=reachBytes)->∃ c,XBase.In false (fun _=>True) W M (.agg cs.toArray) c):∃ l:List Ex,Rw 4 56 XBase.Four XBase.room7 false (fun _=>True) W (fun u c=>XBase.In false (fun _=>True) W M u c) c l:=by
 rcases DataW.trod_slice underlying40 h with ⟨e5,-⟩|⟨a,len,cap,els,rest,n',e0,e5,e5',_,hl,hm,hlen,hel,-,-⟩
 ·simp only [List.cons.injEq, and_true] at e5
  subst e5;exact⟨[],Rw.nil⟩
 ·simp only [List.cons.injEq, and_true] at e5
  subst e5;have hone:∀ j:Fin len,∃ (c:Ex) (u:Value),(∃ cs':List Value,u=.agg cs'.toArray/\cs'.length=4/\∀ i (hi:i<4),W.cell? ((a.add (j.1*4)).add i)=cs'[i]?)/\(fun u c=>XBase.In false (fun _=>True) W M u c) u c:=by
   rintro⟨j,hj⟩;have hh:=hel j hj;rw[List.getElem?_eq_getElem (by omega),Option.bind_eq_some_iff] at hh;obtain⟨c',hc,ht⟩:=hh;rw[cellsrow_x] at hc;obtain⟨hl1,hcc⟩:=cells_at hc;obtain⟨c,hin⟩:=hop n' (by omega) ht (fun q hq=>hw q (by
    rw[e5',DataW.weights,underlying40];refine List.mem_cons_of_mem _ (List.mem_append.2 (.inl (weightsAll_mem (d:=els[j].1) ?_ hq)));rw[List.mem_map];exact⟨els[j]'(by omega),List.getElem_mem _,rfl⟩))
   exact⟨c,_,⟨c',rfl,hl1,hcc⟩,hin⟩
  have hbz:len*56<=140737488351232:=by
   have:=hw ((els.length+rest.length)*56) (by
    rw[e5',DataW.weights,underlying40];simp [bytesrow_x])
   simp only [reachBytes] at this;omega
  obtain⟨f,hf⟩:=Classical.axiomOfChoice hone;refine⟨List.ofFn f,some a,cap,by simp,by simpa using hl,hm,by simpa using hbz,(fun h=>by cases h),?_⟩;by_cases h0:len=0
  ·subst h0
   exact .inl ⟨by simp,rfl⟩
  ·have hcell0:∃ v,W.cell? (a.add 0)=some v:=by
    obtain⟨u,⟨c',-,hl4,hcc⟩,-⟩:=hf ⟨0,by omega⟩;have:=hcc 0 (by omega);rw[show (a.add (0*4)).add 0=a.add 0 from by simp [Addr.add]] at this;exact⟨c'[0],by rw[this,List.getElem?_eq_getElem]⟩
   obtain⟨v,hv⟩:=hcell0;obtain⟨g,o,rfl⟩:=spot_none hv;refine .inr ⟨g,o,rfl,trivial,fun j hj=>?_,fun h=>by cases h⟩;have hj':j<len:=by simpa using hj
   obtain⟨u,⟨c',rfl,hl4,hcc⟩,hin⟩:=hf ⟨j,hj'⟩;obtain⟨y0,y1,y2,y3,rfl⟩:=list_4 hl4;have g0:=hcc 0 (by omega);have g1:=hcc 1 (by omega);have g2:=hcc 2 (by omega);have g3:=hcc 3 (by omega);simp only [add_none] at g0 g1 g2 g3;refine⟨_,⟨y0,y1,y2,y3,rfl,g0,g1,g2,g3⟩,?_⟩;simpa using hin
theorem open_x:∀ {fuel:Nat} {cs:List Value} {x:DataW H × List MemPlace},DataW.trod enc prog W 0 (fun _=>true) true fuel 44 cs=some x->(∀ q ∈ DataW.weights prog 44 x.1,q<=reachBytes) ->
  ∃ c,XBase.In false (fun _=>True) W (fuel+1) (.agg cs.toArray) c:=by
 intro fuel;induction fuel using Nat.strongRecOn with
 | _ fuel ih=>
  intro cs x h hw;obtain⟨xs,n,rfl,rfl,hcl,hxl,hf⟩:=DataW.trod_struct underlying44 h;rw[cellsX] at hcl;have hxl4:xs.length=4:=hxl;clear hxl;obtain⟨c0,c1,c2,c3,rfl⟩:=list_4 hcl;obtain⟨x0,x1,x2,x3,rfl⟩:=list_4 hxl4;have f0:=hf 0 _ rfl;have f1:=hf 1 _ rfl;have f2:=hf 2 _ rfl;have f3:=hf 3 _ rfl;simp [cells3] at f0
  simp [cells3] at f1
  simp [cells9] at f2
  simp [cellsXs] at f3
  obtain⟨k,e0,e0',hk⟩:=DataW.trod_int underlying3 f0;obtain⟨i,e1,e1',hi⟩:=DataW.trod_int underlying3 f1;obtain⟨s,e2,e2',hs⟩:=DataW.trod_string underlying9 f2;have W0:∀ q,q ∈ DataW.weights prog 9 x2.1\/q ∈ DataW.weights prog 40 x3.1->q<=reachBytes:=by
   intro q hq;apply hw
   simp only [List.map_cons, List.map_nil];rw[DataW.weights,underlying44];simp only [List.map_cons, List.map_nil, DataW.weightsEach, List.mem_append];rcases hq with hq|hq
   ·simp [hq]
   ·simp [hq]
  have hss:=str_le (congrArg Prod.fst e2') (fun q hq=>W0 q (.inl hq));simp only [List.cons.injEq, and_true] at e0 e1 e2;subst e0 e1 e2;obtain⟨l,a,cap,g1,g2,g3,g4,g5,g6⟩:=row_x (M:=n+1) f3 (fun q hq=>W0 q (.inr hq)) (fun n' hn' cs x h1 h2=>by
   obtain⟨c,hc⟩:=ih n' (by omega) h1 h2;exact⟨c,hc.weak (fun _ h=>h) false id (n+1) (by omega)⟩)
  refine⟨.mk k i s l,?_⟩;rw[XBase.in_iff];exact⟨_,rfl,bounds_i64 hk,bounds_i64 hi,hss,(XBase.InL.weak (fun _ h=>h) false id (n+1) (by omega) ⟨a,cap,g1,g2,g3,g4,g5,g6⟩)⟩
theorem open_p {fuel:Nat} {cs:List Value} {x:DataW H × List MemPlace} (h:DataW.trod enc prog W 0 (fun _=>true) true fuel 65 cs=some x) (hw:∀ q ∈ DataW.weights prog 65 x.1,q<=reachBytes) :
  ∃ c,InP false (fun _=>True) W (.agg cs.toArray) c:=by
 obtain⟨xs,n,rfl,rfl,hcl,hxl,hf⟩:=DataW.trod_struct underlying65 h;rw[cellsP] at hcl;have hxl4:xs.length=3:=hxl;clear hxl;obtain⟨c0,c1,c2,c3,c4,c5,rfl⟩:=list_6 hcl;obtain⟨x0,x1,x2,rfl⟩:=list_3 hxl4;have f0:=hf 0 _ rfl;have f1:=hf 1 _ rfl;have f2:=hf 2 _ rfl;simp [cells9] at f0
 simp [cells4] at f1
 simp [cellsX] at f2
 obtain⟨s,e0,e0',hs⟩:=DataW.trod_string underlying9 f0;obtain⟨b,e1,e1'⟩:=DataW.trod_bool underlying4 f1;have W0:∀ q,q ∈ DataW.weights prog 9 x0.1\/q ∈ DataW.weights prog 44 x2.1->q<=reachBytes:=by
  intro q hq;apply hw
  simp only [List.map_cons, List.map_nil];rw[DataW.weights,underlying65];simp only [List.map_cons, List.map_nil, DataW.weightsEach, List.mem_append];rcases hq with hq|hq
  ·simp [hq]
  ·simp [hq]
 have hss:=str_le (congrArg Prod.fst e0') (fun q hq=>W0 q (.inl hq));obtain⟨x,hx⟩:=open_x f2 (fun q hq=>W0 q (.inr hq));simp only [List.cons.injEq, and_true] at e0 e1;subst e0 e1;exact⟨⟨s,b,x⟩,_,_,_,_,_,rfl,hss,hx⟩
theorem open_f {fuel:Nat} {cs:List Value} {x:DataW H × List MemPlace} (h:DataW.trod enc prog W 0 (fun _=>true) true fuel 104 cs=some x) (hw:∀ q ∈ DataW.weights prog 104 x.1,q<=reachBytes) :
  ∃ c,InF false (fun _=>True) W (.agg cs.toArray) c:=by
 obtain⟨xs,n,rfl,rfl,hcl,hxl,hf⟩:=DataW.trod_struct underlying104 h;rw[cellsF] at hcl;have hxl4:xs.length=5:=hxl;clear hxl;obtain⟨c0,c1,c2,c3,c4,c5,c6,c7,rfl⟩:=list_8 hcl;obtain⟨x0,x1,x2,x3,x4,rfl⟩:=list_5 hxl4;have f0:=hf 0 _ rfl;have f1:=hf 1 _ rfl;have f2:=hf 2 _ rfl;have f3:=hf 3 _ rfl;have f4:=hf 4 _ rfl;simp [cells9] at f0
 simp [cells9] at f1
 simp [cells4] at f2
 simp [cellsX] at f3
 simp [cells3] at f4
 obtain⟨s,e0,e0',hs⟩:=DataW.trod_string underlying9 f0;obtain⟨t,e1,e1',ht⟩:=DataW.trod_string underlying9 f1;obtain⟨b,e2,e2'⟩:=DataW.trod_bool underlying4 f2;obtain⟨i,e4,e4',hi⟩:=DataW.trod_int underlying3 f4;have W0:∀ q,q ∈ DataW.weights prog 9 x0.1\/q ∈ DataW.weights prog 9 x1.1\/q ∈ DataW.weights prog 44 x3.1->q<=reachBytes:=by
  intro q hq;apply hw
  simp only [List.map_cons, List.map_nil];rw[DataW.weights,underlying104];simp only [List.map_cons, List.map_nil, DataW.weightsEach, List.mem_append];rcases hq with hq|hq|hq
  ·simp [hq]
  ·simp [hq]
  ·simp [hq]
 have hss:=str_le (congrArg Prod.fst e0') (fun q hq=>W0 q (.inl hq));have htt:=str_le (congrArg Prod.fst e1') (fun q hq=>W0 q (.inr (.inl hq)));obtain⟨x,hx⟩:=open_x f3 (fun q hq=>W0 q (.inr (.inr hq)));simp only [List.cons.injEq, and_true] at e0 e1 e2 e4;subst e0 e1 e2 e4;exact⟨⟨s,t,b,x,i⟩,_,_,_,_,_,rfl,hss,htt,hx,bounds_i64 hi⟩
theorem row_p  {fuel:Nat} {c:Value} {x:DataW H × List MemPlace} (h:DataW.trod enc prog W 0 (fun _=>true) true fuel 39 [c]=some x) (hw:∀ q ∈ DataW.weights prog 39 x.1,q<=reachBytes):∃ l:List Pt,Rw 6 80 Pt6 rmP false (fun _=>True) W (InP false (fun _=>True) W) c l:=by
 rcases DataW.trod_slice underlying39 h with ⟨e5,-⟩|⟨a,len,cap,els,rest,n',e0,e5,e5',_,hl,hm,hlen,hel,-,-⟩
 ·simp only [List.cons.injEq, and_true] at e5
  subst e5;exact⟨[],Rw.nil⟩
 ·simp only [List.cons.injEq, and_true] at e5
  subst e5;have hone:∀ j:Fin len,∃ (c:Pt) (u:Value),(∃ cs':List Value,u=.agg cs'.toArray/\cs'.length=6/\∀ i (hi:i<6),W.cell? ((a.add (j.1*6)).add i)=cs'[i]?)/\(InP false (fun _=>True) W) u c:=by
   rintro⟨j,hj⟩;have hh:=hel j hj;rw[List.getElem?_eq_getElem (by omega),Option.bind_eq_some_iff] at hh;obtain⟨c',hc,ht⟩:=hh;rw[cellsrow_p] at hc;obtain⟨hl1,hcc⟩:=cells_at hc;obtain⟨c,hin⟩:=open_p ht (fun q hq=>hw q (by
    rw[e5',DataW.weights,underlying39];refine List.mem_cons_of_mem _ (List.mem_append.2 (.inl (weightsAll_mem (d:=els[j].1) ?_ hq)));rw[List.mem_map];exact⟨els[j]'(by omega),List.getElem_mem _,rfl⟩))
   exact⟨c,_,⟨c',rfl,hl1,hcc⟩,hin⟩
  have hbz:len*80<=140737488351232:=by
   have:=hw ((els.length+rest.length)*80) (by
    rw[e5',DataW.weights,underlying39];simp [bytesrow_p])
   simp only [reachBytes] at this;omega
  obtain⟨f,hf⟩:=Classical.axiomOfChoice hone;refine⟨List.ofFn f,some a,cap,by simp,by simpa using hl,hm,by simpa using hbz,(fun h=>by cases h),?_⟩;by_cases h0:len=0
  ·subst h0
   exact .inl ⟨by simp,rfl⟩
  ·have hcell0:∃ v,W.cell? (a.add 0)=some v:=by
    obtain⟨u,⟨c',-,hl4,hcc⟩,-⟩:=hf ⟨0,by omega⟩;have:=hcc 0 (by omega);rw[show (a.add (0*6)).add 0=a.add 0 from by simp [Addr.add]] at this;exact⟨c'[0],by rw[this,List.getElem?_eq_getElem]⟩
   obtain⟨v,hv⟩:=hcell0;obtain⟨g,o,rfl⟩:=spot_none hv;refine .inr ⟨g,o,rfl,trivial,fun j hj=>?_,fun h=>by cases h⟩;have hj':j<len:=by simpa using hj
   obtain⟨u,⟨c',rfl,hl4,hcc⟩,hin⟩:=hf ⟨j,hj'⟩;obtain⟨y0,y1,y2,y3,y4,y5,rfl⟩:=list_6 hl4;have g0:=hcc 0 (by omega);have g1:=hcc 1 (by omega);have g2:=hcc 2 (by omega);have g3:=hcc 3 (by omega);have g4:=hcc 4 (by omega);have g5:=hcc 5 (by omega);simp only [add_none] at g0 g1 g2 g3 g4 g5;refine⟨_,⟨y0,y1,y2,y3,y4,y5,rfl,g0,g1,g2,g3,g4,g5⟩,?_⟩;simpa using hin
theorem row_f  {fuel:Nat} {c:Value} {x:DataW H × List MemPlace} (h:DataW.trod enc prog W 0 (fun _=>true) true fuel 38 [c]=some x) (hw:∀ q ∈ DataW.weights prog 38 x.1,q<=reachBytes):∃ l:List Fld,Rw 8 104 Fd8 rmF false (fun _=>True) W (InF false (fun _=>True) W) c l:=by
 rcases DataW.trod_slice underlying38 h with ⟨e5,-⟩|⟨a,len,cap,els,rest,n',e0,e5,e5',_,hl,hm,hlen,hel,-,-⟩
 ·simp only [List.cons.injEq, and_true] at e5
  subst e5;exact⟨[],Rw.nil⟩
 ·simp only [List.cons.injEq, and_true] at e5
  subst e5;have hone:∀ j:Fin len,∃ (c:Fld) (u:Value),(∃ cs':List Value,u=.agg cs'.toArray/\cs'.length=8/\∀ i (hi:i<8),W.cell? ((a.add (j.1*8)).add i)=cs'[i]?)/\(InF false (fun _=>True) W) u c:=by
   rintro⟨j,hj⟩;have hh:=hel j hj;rw[List.getElem?_eq_getElem (by omega),Option.bind_eq_some_iff] at hh;obtain⟨c',hc,ht⟩:=hh;rw[cellsrow_f] at hc;obtain⟨hl1,hcc⟩:=cells_at hc;obtain⟨c,hin⟩:=open_f ht (fun q hq=>hw q (by
    rw[e5',DataW.weights,underlying38];refine List.mem_cons_of_mem _ (List.mem_append.2 (.inl (weightsAll_mem (d:=els[j].1) ?_ hq)));rw[List.mem_map];exact⟨els[j]'(by omega),List.getElem_mem _,rfl⟩))
   exact⟨c,_,⟨c',rfl,hl1,hcc⟩,hin⟩
  have hbz:len*104<=140737488351232:=by
   have:=hw ((els.length+rest.length)*104) (by
    rw[e5',DataW.weights,underlying38];simp [bytesrow_f])
   simp only [reachBytes] at this;omega
  obtain⟨f,hf⟩:=Classical.axiomOfChoice hone;refine⟨List.ofFn f,some a,cap,by simp,by simpa using hl,hm,by simpa using hbz,(fun h=>by cases h),?_⟩;by_cases h0:len=0
  ·subst h0
   exact .inl ⟨by simp,rfl⟩
  ·have hcell0:∃ v,W.cell? (a.add 0)=some v:=by
    obtain⟨u,⟨c',-,hl4,hcc⟩,-⟩:=hf ⟨0,by omega⟩;have:=hcc 0 (by omega);rw[show (a.add (0*8)).add 0=a.add 0 from by simp [Addr.add]] at this;exact⟨c'[0],by rw[this,List.getElem?_eq_getElem]⟩
   obtain⟨v,hv⟩:=hcell0;obtain⟨g,o,rfl⟩:=spot_none hv;refine .inr ⟨g,o,rfl,trivial,fun j hj=>?_,fun h=>by cases h⟩;have hj':j<len:=by simpa using hj
   obtain⟨u,⟨c',rfl,hl4,hcc⟩,hin⟩:=hf ⟨j,hj'⟩;obtain⟨y0,y1,y2,y3,y4,y5,y6,y7,rfl⟩:=list_8 hl4;have g0:=hcc 0 (by omega);have g1:=hcc 1 (by omega);have g2:=hcc 2 (by omega);have g3:=hcc 3 (by omega);have g4:=hcc 4 (by omega);have g5:=hcc 5 (by omega);have g6:=hcc 6 (by omega);have g7:=hcc 7 (by omega);simp only [add_none] at g0 g1 g2 g3 g4 g5 g6 g7;refine⟨_,⟨y0,y1,y2,y3,y4,y5,y6,y7,rfl,g0,g1,g2,g3,g4,g5,g6,g7⟩,?_⟩;simpa using hin
theorem row_c {M:Nat} {fuel:Nat} {c:Value} {x:DataW H × List MemPlace} (h:DataW.trod enc prog W 0 (fun _=>true) true fuel 22 [c]=some x) (hw:∀ q ∈ DataW.weights prog 22 x.1,q<=reachBytes) (hop:∀ n',n'+1<=fuel->∀ {cs:List Value} {x:DataW H × List MemPlace},DataW.trod enc prog W 0 (fun _=>true) true n' 42 cs=some x->(∀ q ∈ DataW.weights prog 42 x.1,q<=reachBytes)->∃ c,KBase.In false (fun _=>True) W M (.agg cs.toArray) c):∃ l:List Co,Rw 7 144 Co7 rmC false (fun _=>True) W (KBase.In false (fun _=>True) W M) c l:=by
 rcases DataW.trod_slice underlying22 h with ⟨e5,-⟩|⟨a,len,cap,els,rest,n',e0,e5,e5',_,hl,hm,hlen,hel,-,-⟩
 ·simp only [List.cons.injEq, and_true] at e5
  subst e5;exact⟨[],Rw.nil⟩
 ·simp only [List.cons.injEq, and_true] at e5
  subst e5;have hone:∀ j:Fin len,∃ (c:Co) (u:Value),(∃ cs':List Value,u=.agg cs'.toArray/\cs'.length=7/\∀ i (hi:i<7),W.cell? ((a.add (j.1*7)).add i)=cs'[i]?)/\(KBase.In false (fun _=>True) W M) u c:=by
   rintro⟨j,hj⟩;have hh:=hel j hj;rw[List.getElem?_eq_getElem (by omega),Option.bind_eq_some_iff] at hh;obtain⟨c',hc,ht⟩:=hh;rw[cellsrow_c] at hc;obtain⟨hl1,hcc⟩:=cells_at hc;obtain⟨c,hin⟩:=hop n' (by omega) ht (fun q hq=>hw q (by
    rw[e5',DataW.weights,underlying22];refine List.mem_cons_of_mem _ (List.mem_append.2 (.inl (weightsAll_mem (d:=els[j].1) ?_ hq)));rw[List.mem_map];exact⟨els[j]'(by omega),List.getElem_mem _,rfl⟩))
   exact⟨c,_,⟨c',rfl,hl1,hcc⟩,hin⟩
  have hbz:len*144<=140737488351232:=by
   have:=hw ((els.length+rest.length)*144) (by
    rw[e5',DataW.weights,underlying22];simp [bytesrow_c])
   simp only [reachBytes] at this;omega
  obtain⟨f,hf⟩:=Classical.axiomOfChoice hone;refine⟨List.ofFn f,some a,cap,by simp,by simpa using hl,hm,by simpa using hbz,(fun h=>by cases h),?_⟩;by_cases h0:len=0
  ·subst h0
   exact .inl ⟨by simp,rfl⟩
  ·have hcell0:∃ v,W.cell? (a.add 0)=some v:=by
    obtain⟨u,⟨c',-,hl4,hcc⟩,-⟩:=hf ⟨0,by omega⟩;have:=hcc 0 (by omega);rw[show (a.add (0*7)).add 0=a.add 0 from by simp [Addr.add]] at this;exact⟨c'[0],by rw[this,List.getElem?_eq_getElem]⟩
   obtain⟨v,hv⟩:=hcell0;obtain⟨g,o,rfl⟩:=spot_none hv;refine .inr ⟨g,o,rfl,trivial,fun j hj=>?_,fun h=>by cases h⟩;have hj':j<len:=by simpa using hj
   obtain⟨u,⟨c',rfl,hl4,hcc⟩,hin⟩:=hf ⟨j,hj'⟩;obtain⟨y0,y1,y2,y3,y4,y5,y6,rfl⟩:=list_7 hl4;have g0:=hcc 0 (by omega);have g1:=hcc 1 (by omega);have g2:=hcc 2 (by omega);have g3:=hcc 3 (by omega);have g4:=hcc 4 (by omega);have g5:=hcc 5 (by omega);have g6:=hcc 6 (by omega);simp only [add_none] at g0 g1 g2 g3 g4 g5 g6;refine⟨_,⟨y0,y1,y2,y3,y4,y5,y6,rfl,g0,g1,g2,g3,g4,g5,g6⟩,?_⟩;simpa using hin
theorem open_c:∀ {fuel:Nat} {cs:List Value} {x:DataW H × List MemPlace},DataW.trod enc prog W 0 (fun _=>true) true fuel 42 cs=some x->(∀ q ∈ DataW.weights prog 42 x.1,q<=reachBytes) ->
  ∃ c,KBase.In false (fun _=>True) W (fuel+1) (.agg cs.toArray) c:=by
 intro fuel;induction fuel using Nat.strongRecOn with
 | _ fuel ih=>
  intro cs x h hw;obtain⟨xs,n,rfl,rfl,hcl,hxl,hf⟩:=DataW.trod_struct underlying42 h;rw[cellsC] at hcl;have hxl4:xs.length=7:=hxl;clear hxl;obtain⟨c0,c1,c2,c3,c4,c5,c6,rfl⟩:=list_7 hcl;obtain⟨x0,x1,x2,x3,x4,x5,x6,rfl⟩:=list_7 hxl4;have f0:=hf 0 _ rfl;have f1:=hf 1 _ rfl;have f2:=hf 2 _ rfl;have f3:=hf 3 _ rfl;have f4:=hf 4 _ rfl;have f5:=hf 5 _ rfl;have f6:=hf 6 _ rfl;simp [cells3] at f0
  simp [cells9] at f1
  simp [cellsFs] at f2
  simp [cellsPs] at f3
  simp [cellsXs] at f4
  simp [cellsCs] at f5
  simp [cellsCs] at f6
  obtain⟨k,e0,e0',hk⟩:=DataW.trod_int underlying3 f0;obtain⟨s,e1,e1',hs⟩:=DataW.trod_string underlying9 f1;have W0:∀ q,q ∈ DataW.weights prog 9 x1.1\/q ∈ DataW.weights prog 38 x2.1\/q ∈ DataW.weights prog 39 x3.1\/q ∈ DataW.weights prog 40 x4.1\/q ∈ DataW.weights prog 22 x5.1\/q ∈ DataW.weights prog 22 x6.1->q<=reachBytes:=by
   intro q hq;apply hw
   simp only [List.map_cons, List.map_nil];rw[DataW.weights,underlying42];simp only [List.map_cons, List.map_nil, DataW.weightsEach, List.mem_append];rcases hq with hq|hq|hq|hq|hq|hq
   ·simp [hq]
   ·simp [hq]
   ·simp [hq]
   ·simp [hq]
   ·simp [hq]
   ·simp [hq]
  have hss:=str_le (congrArg Prod.fst e1') (fun q hq=>W0 q (.inl hq));obtain⟨fl,hfl⟩:=row_f f2 (fun q hq=>W0 q (.inr (.inl hq)));obtain⟨pl,hpl⟩:=row_p f3 (fun q hq=>W0 q (.inr (.inr (.inl hq))));obtain⟨xl,xa,xc,g1,g2,g3,g4,g5,g6⟩:=row_x (M:=n+1) f4 (fun q hq=>W0 q (.inr (.inr (.inr (.inl hq))))) (fun n' hn' cs x h1 h2=>by
   obtain⟨c,hc⟩:=open_x h1 h2;exact⟨c,hc.weak (fun _ h=>h) false id (n+1) (by omega)⟩)
  obtain⟨ll,hll⟩:=row_c (M:=n+1) f5 (fun q hq=>W0 q (.inr (.inr (.inr (.inr (.inl hq)))))) (fun n' hn' cs x h1 h2=>by
   obtain⟨c,hc⟩:=ih n' (by omega) h1 h2;exact⟨c,hc.weak (fun _ h=>h) false id (n+1) (by omega)⟩)
  obtain⟨ul,hul⟩:=row_c (M:=n+1) f6 (fun q hq=>W0 q (.inr (.inr (.inr (.inr (.inr hq)))))) (fun n' hn' cs x h1 h2=>by
   obtain⟨c,hc⟩:=ih n' (by omega) h1 h2;exact⟨c,hc.weak (fun _ h=>h) false id (n+1) (by omega)⟩)
  simp only [List.cons.injEq, and_true] at e0 e1;subst e0 e1;refine⟨.mk k s fl pl xl ll ul,?_⟩;rw[in_succ];exact⟨_,_,_,_,_,rfl,bounds_i64 hk,hss,hfl,hpl,⟨n+1,xa,xc,g1,g2,g3,g4,g5,g6⟩,InL.weak (fun _ h=>h) false id _ (by omega) hll,InL.weak (fun _ h=>h) false id _ (by omega) hul⟩
end
end Go.Proofs.YtdolgmmldncfkaaGreatDoor.KOp
namespace Go.Proofs.YtdolgmmldncfkaaGreatDoor.KCm
open Go.RowKit KBase
theorem bulk_pos {H:Type} (d:DataW H):1<=Rows.uptoBulk d:=by
 cases d with
 | lit l=>cases l <;> simp [Rows.uptoBulk]
 | _=>simp [Rows.uptoBulk]
theorem bulk_len {H:Type}:∀ (E:List (DataW H)),E.length<=Rows.uptoBulkAll E
 | []=>by simp
 | d :: E=>by
  have h0:=bulk_pos d;have ih:=bulk_len E;rw[Rows.uptoBulkAll,List.length_cons];omega
theorem laidOut:laidOutB prog=true:=by kernel_rfl
theorem come {H:Type} {enc:TypeId × Value->H} {W:World} {v:Value} {d:DataW H} {p:List MemPlace} {ts:List TypeId} {ds:List (DataW H)} {j:Nat}
  (h:DataW.Trod enc prog W 0 (fun _=>true) true 22 v d p)
  (hsz:(DataW.weightsEach prog ts ds).all (· <= reachBytes)=true) (ht:ts[j]? = some 22) (hd:ds[j]? = some d) (hv:v.cells.toList=[v]) :
  (∃ m l,InL false (fun _=>True) W m v l/\l.length<=Rows.uptoBulk d)/\∀ W',Below W.heap.size W W'->DataW.Trod enc prog W' 0 (fun b=>decide (b<W.heap.size)) true 22 v d p:=by
 have lt0:∀ x ∈ p,x.block<W.heap.size:=by obtain⟨m,hm⟩:=h;exact DataW.trod_lt m _ _ _ hm
 refine⟨?_,fun W' bel=>Below.trod laidOut (by kernel_rfl) (of_decide_eq_true (by kernel_rfl)) h bel lt0⟩;obtain⟨fuel,hf⟩:=h;rw[hv] at hf;have hw:∀ q ∈ DataW.weights prog 22 d,q<=reachBytes:=fun q hq=>by simpa using List.all_eq_true.1 hsz q (DataW.weights_mem_each ht hd q hq)
 obtain⟨l,hl⟩:=KOp.row_c (M:=fuel+1) hf hw (fun n' hn' cs x h1 h2=>by
  obtain⟨c,hc⟩:=KOp.open_c h1 h2;exact⟨c,hc.weak (fun _ h=>h) false id (fuel+1) (by omega)⟩)
 refine⟨fuel+1,l,hl,?_⟩;obtain⟨a,cap,hs,-⟩:=hl;rcases DataW.trod_slice underlying22 hf with ⟨e5,-⟩|⟨a',len,cap',els,rest,n',e0,e5,e5',_,hl,hm,hlen,hel,-,-⟩
 ·simp only [List.cons.injEq, and_true] at e5
  rw[hs] at e5;injection e5 with _ e _
  omega
 ·simp only [List.cons.injEq, and_true] at e5
  rw[hs] at e5;injection e5 with _ e _
  have e6:d=.slice (els.map (·.1)) (rest.map (·.1)):=congrArg Prod.fst e5';rw[e6,Rows.uptoBulk];have:=bulk_len (els.map (·.1));rw[List.length_map] at this;omega
end Go.Proofs.YtdolgmmldncfkaaGreatDoor.KCm
namespace Go.Proofs.YtdolgmmldncfkaaGreatDoor.Tak
open Go
theorem tkH {P:Program} {ops:Array Oper} {Q:Exit->Act->World->Prop} {md:Region.Mode} {S:World->Prop} (i:Nat) {oi:Oper} {v:Value} {fuel:Nat} {listed:Array Bool} {a:Act} {w:World} (hi:ops[i]? = some oi)
  (h:wpAnyH P md ops Q S fuel (listed.setIfInBounds i true) (a.put oi.dst v) w)
  (hs:Region.noSelect ops=true:=by kernel_rfl) (hf:Region.free md ops listed i=true:=by kernel_rfl) (hr:(Region.ready md ops listed).contains i=true:=by kernel_rfl)
  (hQ:∀ c a w,Q (.panic c) (a.put oi.dst v) w->Q (.panic c) a w:=by exact fun _ _ _ h=>h) (hw:Region.wanted oi (yielded ops a.tmps)=true:=by rfl)
  (hv:∀ w,S w->(execOp a.eval oi).run P w=.ok (.value v) w:=by intro w hSw;(try dsimp only at hSw);go_simp;first | done | with_reducible rfl | (rw[if_neg (by omega)]))
  (hS:S w:=by assumption):wpAnyH P md ops Q S (fuel+1) listed a w:=
 wpAnyH_take hi hs hf hr hQ (Or.inl ⟨hw,hv⟩) hS h
theorem rdH {P:Program} {ops:Array Oper} {Q:Exit->Act->World->Prop} {md:Region.Mode} {S:World->Prop} {fuel:Nat} {listed:Array Bool} {a:Act} {w:World} (rs:List Nat) (h:AllReadyH P md ops Q S fuel listed a w rs) (hr:Region.ready md ops listed=rs:=by kernel_rfl) (hne:rs ≠ []:=by simp):wpAnyH P md ops Q S (fuel+1) listed a w:=wpAnyH_ready hr hne h
theorem alH {P:Program} {ops:Array Oper} {Q:Exit->Act->World->Prop} {md:Region.Mode} {S:World->Prop} {fuel:Nat} {listed:Array Bool} {a:Act} {w:World} {i:Nat} {o:Oper} (ho:ops[i]? = some o)
  (h:∀ K':Act->World->Prop,Shut (∀ a w,S w->(S w->wpAnyH P md ops Q S fuel (listed.setIfInBounds i true) a w)->K' a w)->if Region.wanted o (yielded ops a.tmps)=true then Oper.wp P o a w K' Q else K' (a.put o.dst undef) w):AllReadyH P md ops Q S fuel listed a w [i]:=.cons ho h .nil
theorem dnH {P:Program} {ops:Array Oper} {Q:Exit->Act->World->Prop} {md:Region.Mode} {S:World->Prop} {fuel:Nat} {listed:Array Bool} {a:Act} {w:World} (h:Q .normal a w) (hr:Region.ready md ops listed=[]:=by kernel_rfl):wpAnyH P md ops Q S fuel listed a w:=wpAnyH_done hr h fuel
theorem ptH:(∀ (a:Act) (d:Tmp) (v:Value),a.put (some d) v = { a with tmps:=a.tmps.setIfInBounds d v })/\(∀ (a:Act) (v:Value),a.put none v=a) /\
  (∀ (T:Type) (l:List T) (i:Nat) (h:i<l.toArray.size),l.toArray[i]=l[i]'(by simpa using h)) /\
  (∀ (T:Type) (x:T) (l:List T) (h:0<(x :: l).length),(x :: l)[0]=x) /\
  (∀ (T:Type) (x:T) (l:List T) (i:Nat) (h:i+1<(x :: l).length),(x :: l)[i+1]=l[i]'(Nat.lt_of_succ_lt_succ h)) /\
  (∀ (T:Type) (l:List T) (i:Nat) (x:T),l.toArray.setIfInBounds i x=(l.set i x).toArray) /\
  (∀ (T:Type) (x y:T) (l:List T),(x :: l).set 0 y=y :: l)/\∀ (T:Type) (x y:T) (l:List T) (i:Nat),(x :: l).set (i+1) y=x :: l.set i y:=
 ⟨fun _ _ _=>rfl,fun _ _=>rfl,fun _ _ _ _=>by simp,fun _ _ _ _=>rfl,fun _ _ _ _ _=>rfl,fun _ _ _ _=>by simp,fun _ _ _ _=>rfl,fun _ _ _ _ _=>rfl⟩
theorem rh12 {P:Program} {ops:Array Oper} {Q:Exit->Act->World->Prop} {id:Nat} {a:Act} {w:World} (B C:Nat) (k1:Int) (b1:Bool) (i1:Int) (s1:ByteArray) (n1 l1:Value) (k2:Int) (b2:Bool) (i2:Int) (s2:ByteArray) (n2 l2:Value) (hm:P.follows .mixedOrders=true) (hS:(fun w':World=>(w'.cell? ⟨B,0,none⟩=some (.int .i64 k1)/\w'.cell? ⟨B,1,none⟩=some (.bool b1)/\w'.cell? ⟨B,2,none⟩=some (.int .i64 i1)/\w'.cell? ⟨B,3,none⟩=some (.string s1)/\w'.cell? ⟨B,4,none⟩=some (n1)/\w'.cell? ⟨B,5,none⟩=some (l1))/\(w'.cell? ⟨C,0,none⟩=some (.int .i64 k2)/\w'.cell? ⟨C,1,none⟩=some (.bool b2)/\w'.cell? ⟨C,2,none⟩=some (.int .i64 i2)/\w'.cell? ⟨C,3,none⟩=some (.string s2)/\w'.cell? ⟨C,4,none⟩=some (n2)/\w'.cell? ⟨C,5,none⟩=some (l2))) w.drew)
  (h:(fun w':World=>(w'.cell? ⟨B,0,none⟩=some (.int .i64 k1)/\w'.cell? ⟨B,1,none⟩=some (.bool b1)/\w'.cell? ⟨B,2,none⟩=some (.int .i64 i1)/\w'.cell? ⟨B,3,none⟩=some (.string s1)/\w'.cell? ⟨B,4,none⟩=some (n1)/\w'.cell? ⟨B,5,none⟩=some (l1))/\(w'.cell? ⟨C,0,none⟩=some (.int .i64 k2)/\w'.cell? ⟨C,1,none⟩=some (.bool b2)/\w'.cell? ⟨C,2,none⟩=some (.int .i64 i2)/\w'.cell? ⟨C,3,none⟩=some (.string s2)/\w'.cell? ⟨C,4,none⟩=some (n2)/\w'.cell? ⟨C,5,none⟩=some (l2))) w.drew->wpAnyH P .any ops Q (fun w'=>(w'.cell? ⟨B,0,none⟩=some (.int .i64 k1)/\w'.cell? ⟨B,1,none⟩=some (.bool b1)/\w'.cell? ⟨B,2,none⟩=some (.int .i64 i1)/\w'.cell? ⟨B,3,none⟩=some (.string s1)/\w'.cell? ⟨B,4,none⟩=some (n1)/\w'.cell? ⟨B,5,none⟩=some (l1))/\(w'.cell? ⟨C,0,none⟩=some (.int .i64 k2)/\w'.cell? ⟨C,1,none⟩=some (.bool b2)/\w'.cell? ⟨C,2,none⟩=some (.int .i64 i2)/\w'.cell? ⟨C,3,none⟩=some (.string s2)/\w'.cell? ⟨C,4,none⟩=some (n2)/\w'.cell? ⟨C,5,none⟩=some (l2))) ops.size (Array.replicate ops.size false) a w.drew):(Code.region id ops true).wp P Q a w:=wp_region_held_drew (S:=fun w'=>(w'.cell? ⟨B,0,none⟩=some (.int .i64 k1)/\w'.cell? ⟨B,1,none⟩=some (.bool b1)/\w'.cell? ⟨B,2,none⟩=some (.int .i64 i1)/\w'.cell? ⟨B,3,none⟩=some (.string s1)/\w'.cell? ⟨B,4,none⟩=some (n1)/\w'.cell? ⟨B,5,none⟩=some (l1))/\(w'.cell? ⟨C,0,none⟩=some (.int .i64 k2)/\w'.cell? ⟨C,1,none⟩=some (.bool b2)/\w'.cell? ⟨C,2,none⟩=some (.int .i64 i2)/\w'.cell? ⟨C,3,none⟩=some (.string s2)/\w'.cell? ⟨C,4,none⟩=some (n2)/\w'.cell? ⟨C,5,none⟩=some (l2))) hm hS h
end Go.Proofs.YtdolgmmldncfkaaGreatDoor.Tak

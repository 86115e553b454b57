import Derived.BigQuiet
import Derived.Test.YtdolgmmldncfkaaGreatDoorPJ03
import Derived.Test.YtdolgmmldncfkaaGreatDoorPJ23
import Derived.Test.YtdolgmmldncfkaaGreatDoorPJ24
open Go.Proofs.Tryz
set_option linter.unusedVariables false
set_option maxRecDepth 100000
set_option maxHeartbeats 4000000
namespace Go.Proofs.YtdolgmmldncfkaaGreatDoor.KLe
open Go.RowKit Go.Shelf Base KBase KEx KPi
open XBase (four_box)
attribute [local go_sem] Oper.semAt_some
def lft (c:Co) (r:Int):Int:=bq (xsC c) (r - (1+c.f.length+c.p.length+c.x.length))
theorem heap_alloc_at (w:World) (o:Obj) (k:Nat) (h:k=w.heap.size):(w.alloc o).heap[k]? = some o:=by subst h;exact heap_alloc_new w o
theorem keeps_below {B:Nat} {W W':World} (h:Below W.heap.size W W'):KeepsFrom B W W':=⟨h.size,fun k o _ hk _=>(h.block k (Array.getElem?_eq_some_iff.1 hk).1).trans hk⟩
theorem own_cells {α:Type} (n b:Nat) (cs:Array Value) (t:TypeId) (fz:Nat × Nat):OwnFrom n (fun (_:α) W=>W.heap[b]? = some (.cells cs t fz)):=fun _ X Y row hs hg hr=>
 (hg.block b (Array.getElem?_eq_some_iff.1 hs).1 (fun e=>by obtain⟨-,o,ho,hc⟩:=hr b e.symm;rw[hs] at ho;cases ho;cases hc)).trans hs
theorem left_c {m:Nat} {v:Value} {c:Co} {w:World} (hin:In false (fun _=>True) w m v c) {r:Int} (hr : -1<=r/\r<=65536) :
  Calls prog 101 #[.int .i64 r,v] w fun e w'=>e=.returned (.int .i64 (lft c r))/\Below w.heap.size w w':=by
 have hin0:=hin
 obtain⟨m',fv,pv,xv,lv,uv,rfl,rfl,-,-,hF,hP,⟨mx,hX⟩,hl,hu⟩:=hin.shape;obtain⟨a1,c1,rfl,hc1,hm1,hl1,-,hLF⟩:=hF;obtain⟨a2,c2,rfl,hc2,hm2,hl2,-,hLP⟩:=hP;obtain⟨a3,c3,rfl,hc3,hm3,hl3,-,hLX⟩:=hX;clear hin hLF hLP hLX hl hu;obtain⟨R,hR⟩ : ∃ R,r - (1+(c.f.length:Int)+c.p.length+c.x.length)=R:=⟨_,rfl⟩;have eL:lft c r=bq (xsC c) R:=by unfold lft;rw[hR]
 rw[eL];have hR1 : -900000000000000000<=R:=by omega
 have hR2:R<=65536:=by omega
 have w1:IntKind.i64.wrap (r - (1+(c.f.length:Int)+c.p.length+c.x.length))=R:=by rw[IntKind.wrap_i64];omega
 clear eL;refine (callsIn_wide (n:=6)).1 ?_;refine callsIn_of_wp_marks func101 rfl trivial ?_ rfl;simp only [ntmps101, List.size_toArray, List.length_cons, List.length_nil, Nat.reduceAdd, Nat.reduceSub, Array.replicate_succ, Array.replicate_zero, List.push_toArray, List.append_toArray, List.nil_append, List.cons_append];gi_wp2_with fail
 refine⟨trivial,?_⟩;refine (exprs_in _ _ _ _ _ _ _ _ _).mono ?_;rintro e w' ⟨rfl,rfl⟩;obtain⟨W0,hW0⟩ : ∃ W0,((w.alloc (.cells #[.int .i64 R] 3)).alloc (.cells #[.int .i64 c.k,.string c.t,.slice a1 c.f.length c1,.slice a2 c.p.length c2,.slice a3 c.x.length c3,lv,uv] 42)).alloc (.cells #[.int .i64 c.k,.string c.t,.slice a1 c.f.length c1,.slice a2 c.p.length c2,.slice a3 c.x.length c3,lv,uv] 42)=W0:=⟨_,rfl⟩;have hsz:W0.heap.size=w.heap.size+3:=by rw[<- hW0];simp
 have hB0:Below w.heap.size w W0:=by
  rw[<- hW0];exact (((Below.refl _ w).alloc (Nat.le_refl _) _).alloc (by simp) _).alloc (by simp;omega) _
 have b1:Boxed W0 w.heap.size 3 (.int .i64 R):=by
  rw[<- hW0];exact ((Boxed.new w 3 (.int .i64 R)).alloc _).alloc _
 have b2:W0.heap[w.heap.size+1+1]? = some (.cells #[.int .i64 c.k,.string c.t,.slice a1 c.f.length c1,.slice a2 c.p.length c2,.slice a3 c.x.length c3,lv,uv] 42 (0,0)):=by
  rw[<- hW0];exact heap_alloc_at _ _ _ (by simp)
 gi_wp2_with fail
 try rw[hW0]
 clear hW0;refine wpIn_rangeFunc_ownH rfl (by omega) (gf:=155) (lb:=#[.pointer (some ⟨w.heap.size+1+1,0,none⟩)]) rfl trivial (enters_of func155 (by kernel_rfl) rfl)
  (exprs_stops 5 (w.heap.size+1+1) w W0 hin0 hB0 b2) (fun {_ _ _} h k=>Kx.trans h k) (Kx.book (by omega) (by omega)) (Below.refl _ _) (fun _=>rfl)
  (fun pre W=>(Boxed W w.heap.size 3 (.int .i64 (bq (pre.map pr) R))/\W.heap[w.heap.size+1+1]? = some (.cells #[.int .i64 c.k,.string c.t,.slice a1 c.f.length c1,.slice a2 c.p.length c2,.slice a3 c.x.length c3,lv,uv] 42 (0,0)))/\Below w.heap.size w W)
  (fun c pre W=>False)
  (OwnFrom.and (OwnFrom.and (Own.from (boxed_own _ _ _) _) (own_cells _ _ _ _ _)) (ownFrom_below (Nat.le_refl _) (by omega)))
  (fun c=>ownFrom_pure _ (fun _=>False))
  ⟨⟨by rw[List.map_nil,bq_nil];exact b1,b2⟩,hB0⟩
  (fun x a' W=>∃ Bx,w.heap.size+1+1<Bx/\W.heap[Bx]? = some (.cells x.1.1.cells 44 (0,0))/\a' = { tmps:=#[.int .i64 r,.agg #[.int .i64 c.k,.string c.t,.slice a1 c.f.length c1,.slice a2 c.p.length c2,.slice a3 c.x.length c3,lv,uv],.pointer (some ⟨w.heap.size,0,none⟩),.pointer (some ⟨w.heap.size+1,0,none⟩),.int .i64 0,.pointer (some ⟨Bx,0,none⟩),.int .i64 r,.pointer (some ⟨w.heap.size+1,2,none⟩),.slice a1 c.f.length c1,.int .i64 c.f.length,.int .i64 (1+c.f.length),.pointer (some ⟨w.heap.size+1,3,none⟩),.slice a2 c.p.length c2,.int .i64 c.p.length,.int .i64 (1+c.f.length+c.p.length),.pointer (some ⟨w.heap.size+1,4,none⟩),.slice a3 c.x.length c3,.int .i64 c.x.length,.int .i64 (1+c.f.length+c.p.length+c.x.length),.int .i64 R,.agg #[.int .i64 c.k,.string c.t,.slice a1 c.f.length c1,.slice a2 c.p.length c2,.slice a3 c.x.length c3,lv,uv],.func (.func 155) #[] #[.pointer (some ⟨w.heap.size+1+1,0,none⟩)],x.1.1,undef,undef,undef,undef],defers:=[] })
  (fun x a' _ X Y row hs hg hr=>by
   obtain⟨Bx,h1,h2,h3⟩:=hs;refine⟨Bx,h1,(hg.block Bx (Array.getElem?_eq_some_iff.1 h2).1 (fun e=>?_)).trans h2,h3⟩;obtain⟨-,o,ho,hc⟩:=hr Bx e.symm;rw[h2] at ho;cases ho;cases hc)
  ?assign ?body ?done ?stop
 case assign=>
  rintro l pre x W K ⟨⟨c1',c2'⟩,hB1⟩ hK;obtain⟨⟨u,cx⟩,mx',hx⟩:=x;have hx':XBase.In false (fun _=>True) w mx' u cx:=hx;obtain⟨mm,lv',-,rfl,-⟩:=hx'.shape;obtain⟨mm2,a4,c4,-,-,-,-,rfl,-⟩:=hx'.kinds;simp only [enc];gi_wp2
  have hlt:=(Array.getElem?_eq_some_iff.1 c2').1;exact hK _ _ ((KeepsOthers.alloc _ _).from _) (Kx.of_below ((Below.refl _ W).alloc (Nat.le_refl _) _) hB1.size hlt) ⟨⟨c1'.alloc _,(Below.heap_alloc _ _ _ hlt).trans c2'⟩,hB1.alloc hB1.size _⟩ ⟨W.heap.size,hlt,heap_alloc_new W _,rfl⟩
 case body=>
  rintro l pre x a' W hl ⟨rr,hr'⟩ ⟨⟨c1',c2'⟩,hB1⟩ ⟨Bx,hBx,bX,rfl⟩ hlt;obtain⟨mx',hx'⟩ : ∃ m,XBase.In false (fun _=>True) w m x.1.1 x.1.2:=x.2;obtain⟨u,hu⟩ : ∃ u,x.1.1=u:=⟨_,rfl⟩;obtain⟨cx,hcx⟩ : ∃ cx,x.1.2=cx:=⟨_,rfl⟩;have Hpr:Hid (pr x=cx):=hcx;rw[hu,hcx] at hx';rw[hu] at bX;rw[hu];clear hu hcx;obtain⟨mm,lv',-,rfl,-⟩:=hx'.shape;have bX':W.heap[Bx]? = some (.cells #[.int .i64 cx.o,.int .i64 cx.i,.string cx.s,lv'] 44 (0,0)):=bX;obtain⟨x0,x1,x2,x3⟩:=four_box bX';have k1:=c1'.cell;have f1:=c1'.frozen;obtain⟨M,hM⟩ : ∃ M,bq (pre.map pr) R=M:=⟨_,rfl⟩;have HM:=hid hM;have hMb:=bq_bd (pre.map pr) hR1;rw[hM] at c1' k1 hMb;have c42:=CallsIn.inRound l (callsIn_wide (n:=3).2 (be_all _ W _ cx M (hx'.below hB1) (by omega) (by omega)));obtain⟨Z,hZ⟩ : ∃ Z,bq [cx] M=Z:=⟨_,rfl⟩;rw[hZ] at c42;have HZ:Hid (bq ((pre ++ [x]).map pr) R=Z):=by
   show _=_;rw[List.map_append,List.map_cons,List.map_nil,Hpr.out,bq_append,hM,hZ]
  clear hM hZ bX bX';gi_wp2_with fail
  refine⟨trivial,?_⟩;refine c42.mono ?_;rintro e W3 ⟨rfl,b3⟩;have g1:Boxed W3 w.heap.size 3 (.int .i64 M):=(b3.block _ c1'.lt).trans c1';have hBw3:=hB1.trans (b3.mono hB1.size);have hsW:=hB1.size;have h1:=g1.cell;have h2:=g1.frozen;clear c42 x0 x1 x2 x3 k1 f1;gi_wp2_with fail
  have hlt2:=(Array.getElem?_eq_some_iff.1 c2').1;refine⟨(keeps_below (B:=W0.heap.size) b3).trans ((KeepsOthers.setCell _ _ _).from _),(Kx.of_below b3 hsW hlt2).trans (Kx.set _ _ _ (Nat.le_refl _) (by omega) (by omega)),⟨?_,(Below.heap_setCell _ _ _ _ (show w.heap.size+1+1≠w.heap.size by omega)).trans ((b3.block _ hlt2).trans c2')⟩,hBw3.setCell (p:=⟨w.heap.size,0,none⟩) (Nat.le_refl _) _⟩;rw[HZ.out];exact Boxed.set _ g1
 case done=>
  rintro D ys W hD hS ⟨⟨c1',c2'⟩,hB1⟩ hK;rw[hS] at c1';obtain⟨Z,hZ⟩ : ∃ Z,bq (xsC c) R=Z:=⟨_,rfl⟩;rw[hZ] at c1';have k1:=c1'.cell;have HZ:=hid hZ;gi_wp2_with fail
  refine⟨by simp,.inl ⟨_,_,rfl,run_takeDeferred hK,?_⟩⟩;refine⟨.int .i64 Z,?_,by rw[HZ.out],hB1.trans (belowK_b (w:=w) (Nat.le_refl _) W D _ _ (by omega) hK rfl rfl)⟩;simp [results, Tryz.f101, go_sem]
 case stop=>
  rintro D cd pre W hD hSp h;exact h.elim
end Go.Proofs.YtdolgmmldncfkaaGreatDoor.KLe
namespace Go.Proofs.YtdolgmmldncfkaaGreatDoor.KRs
open Go.RowKit Go.Shelf Base KBase KEx KSh
open XBase (four_box)
open KLe (keeps_below)
attribute [local go_sem] Oper.semAt_some
theorem resolved_all {m:Nat} {v:Value} {c:Co} {w:World} (hin:In false (fun _=>True) w m v c) :
  Calls prog 104 #[v] w fun e w'=>e=.returned (.bool ((xsC c).all (rsv)))/\Below w.heap.size w w':=by
 have hin0:=hin
 obtain⟨m',fv,pv,xv,lv,uv,rfl,rfl,-,-,hF,hP,⟨mx,hX⟩,hl,hu⟩:=hin.shape;obtain⟨a1,c1,rfl,hc1,hm1,hl1,-,hLF⟩:=hF;obtain⟨a2,c2,rfl,hc2,hm2,hl2,-,hLP⟩:=hP;obtain⟨a3,c3,rfl,hc3,hm3,hl3,-,hLX⟩:=hX;clear hin hLF hLP hLX hl hu;refine (callsIn_wide (n:=6)).1 ?_;refine callsIn_of_wp_marks func104 rfl trivial ?_ rfl;simp only [ntmps104, List.size_toArray, List.length_cons, List.length_nil, Nat.reduceAdd, Nat.reduceSub, Array.replicate_succ, Array.replicate_zero, List.push_toArray, List.append_toArray, List.nil_append, List.cons_append];gi_wp2_with fail
 refine⟨trivial,?_⟩;refine (exprs_in _ _ _ _ _ _ _ _ _).mono ?_;rintro e w' ⟨rfl,rfl⟩;obtain⟨W0,hW0⟩ : ∃ W0,((w.alloc (.cells #[.int .i64 c.k,.string c.t,.slice a1 c.f.length c1,.slice a2 c.p.length c2,.slice a3 c.x.length c3,lv,uv] 42)).alloc (.cells #[.bool false] 4)).alloc (.cells #[.int .i64 c.k,.string c.t,.slice a1 c.f.length c1,.slice a2 c.p.length c2,.slice a3 c.x.length c3,lv,uv] 42)=W0:=⟨_,rfl⟩;have hsz:W0.heap.size=w.heap.size+3:=by rw[<- hW0];simp
 have hB0:Below w.heap.size w W0:=by
  rw[<- hW0];exact ((((Below.refl _ w).alloc (Nat.le_refl _) _).alloc (by simp <;> omega) _).alloc (by simp <;> omega) _)
 have b1:Boxed W0 (w.heap.size+1) 4 (.bool false):=by
  rw[<- hW0];have:=(Boxed.new (w.alloc (.cells #[.int .i64 c.k,.string c.t,.slice a1 c.f.length c1,.slice a2 c.p.length c2,.slice a3 c.x.length c3,lv,uv] 42)) 4 (.bool false)).alloc (.cells #[.int .i64 c.k,.string c.t,.slice a1 c.f.length c1,.slice a2 c.p.length c2,.slice a3 c.x.length c3,lv,uv] 42);simp only [World.size_alloc] at this;exact this
 have b2:W0.heap[w.heap.size+1+1]? = some (.cells #[.int .i64 c.k,.string c.t,.slice a1 c.f.length c1,.slice a2 c.p.length c2,.slice a3 c.x.length c3,lv,uv] 42 (0,0)):=by
  rw[<- hW0];exact KLe.heap_alloc_at _ _ _ (by simp)
 gi_wp2_with fail
 try rw[hW0]
 clear hW0;refine wpIn_rangeFunc_ownH rfl (by omega) (gf:=155) (lb:=#[.pointer (some ⟨w.heap.size+1+1,0,none⟩)]) rfl trivial (enters_of func155 (by kernel_rfl) rfl)
  (exprs_stops 5 (w.heap.size+1+1) w W0 hin0 hB0 b2) (fun {_ _ _} h k=>Kx.trans h k) (Kx.book (by omega) (by omega)) (Below.refl _ _) (fun _=>rfl)
  (fun pre W=>(((Boxed W (w.heap.size+1) 4 (.bool false)/\W.heap[w.heap.size+1+1]? = some (.cells #[.int .i64 c.k,.string c.t,.slice a1 c.f.length c1,.slice a2 c.p.length c2,.slice a3 c.x.length c3,lv,uv] 42 (0,0)))/\(pre.map pr).all (rsv)=true)/\Below w.heap.size w W))
  (fun cd pre W=>(Boxed W (w.heap.size+1) 4 (.bool false)/\(cd=.ret/\(pre.map pr).all (rsv)=false))/\Below w.heap.size w W)
  (OwnFrom.and (OwnFrom.and (OwnFrom.and (Own.from (boxed_own _ _ _) _) (KLe.own_cells _ _ _ _ _)) (ownFrom_pure _ _)) (ownFrom_below (Nat.le_refl _) (by omega)))
  (fun cd=>OwnFrom.and (OwnFrom.and (Own.from (boxed_own _ _ _) _) (ownFrom_pure _ _)) (ownFrom_below (Nat.le_refl _) (by omega)))
  ⟨⟨⟨b1,b2⟩,rfl⟩,hB0⟩
  (fun x a' W=>∃ Bx,w.heap.size+1+1<Bx/\W.heap[Bx]? = some (.cells x.1.1.cells 44 (0,0))/\a' = { tmps:=#[.agg #[.int .i64 c.k,.string c.t,.slice a1 c.f.length c1,.slice a2 c.p.length c2,.slice a3 c.x.length c3,lv,uv],.pointer (some ⟨w.heap.size,0,none⟩),.pointer (some ⟨w.heap.size+1,0,none⟩),.pointer (some ⟨Bx,0,none⟩),.agg #[.int .i64 c.k,.string c.t,.slice a1 c.f.length c1,.slice a2 c.p.length c2,.slice a3 c.x.length c3,lv,uv],.func (.func 155) #[] #[.pointer (some ⟨w.heap.size+1+1,0,none⟩)],x.1.1,undef,undef,undef],defers:=[] })
  (fun x a' _ X Y row hs hg hr=>by
   obtain⟨Bx,h1,h2,h3⟩:=hs;refine⟨Bx,h1,(hg.block Bx (Array.getElem?_eq_some_iff.1 h2).1 (fun e=>?_)).trans h2,h3⟩;obtain⟨-,o,ho,hc⟩:=hr Bx e.symm;rw[h2] at ho;cases ho;cases hc)
  ?assign ?body ?done ?stop
 case assign=>
  rintro l pre x W K ⟨⟨⟨c1',c2'⟩,hP⟩,hB1⟩ hK;obtain⟨⟨u,cx⟩,mx',hx⟩:=x;have hx':XBase.In false (fun _=>True) w mx' u cx:=hx;obtain⟨mm,lv',-,rfl,-⟩:=hx'.shape;obtain⟨mm2,a4,c4,-,-,-,-,rfl,-⟩:=hx'.kinds;simp only [enc];gi_wp2
  have hlt:=(Array.getElem?_eq_some_iff.1 c2').1;exact hK _ _ ((KeepsOthers.alloc _ _).from _) (Kx.of_below ((Below.refl _ W).alloc (Nat.le_refl _) _) hB1.size hlt) ⟨⟨⟨c1'.alloc _,(Below.heap_alloc _ _ _ hlt).trans c2'⟩,hP⟩,hB1.alloc hB1.size _⟩ ⟨W.heap.size,hlt,heap_alloc_new W _,rfl⟩
 case body=>
  rintro l pre x a' W hl ⟨rr,hr'⟩ ⟨⟨⟨c1',c2'⟩,hP⟩,hB1⟩ ⟨Bx,hBx,bX,rfl⟩ hlt;obtain⟨mx',hx'⟩ : ∃ m,XBase.In false (fun _=>True) w m x.1.1 x.1.2:=x.2;obtain⟨u,hu⟩ : ∃ u,x.1.1=u:=⟨_,rfl⟩;obtain⟨cx,hcx⟩ : ∃ cx,x.1.2=cx:=⟨_,rfl⟩;have Hpr:Hid (pr x=cx):=hcx;rw[hu,hcx] at hx';rw[hu] at bX;rw[hu];clear hu hcx;obtain⟨mm,lv',-,rfl,-⟩:=hx'.shape;have bX':W.heap[Bx]? = some (.cells #[.int .i64 cx.o,.int .i64 cx.i,.string cx.s,lv'] 44 (0,0)):=bX;obtain⟨x0,x1,x2,x3⟩:=four_box bX';have cT:=CallsIn.inRound l (callsIn_wide (n:=3).2 (resolved_c (hx'.below hB1)));obtain⟨Z,hZ⟩ : ∃ Z,rsv cx=Z:=⟨_,rfl⟩;rw[hZ] at cT;have HZ:Hid (((pre ++ [x]).map pr).all (rsv)=Z):=by
   show _=_;rw[List.map_append,List.map_cons,List.map_nil,Hpr.out,List.all_append,hP,List.all_cons,List.all_nil,Bool.true_and,Bool.and_true,hZ]
  clear hZ bX bX';gi_wp2_with fail
  refine⟨trivial,?_⟩;refine cT.mono ?_;rintro e W3 ⟨rfl,b3⟩;have hsW:=hB1.size;have g1:Boxed W3 (w.heap.size+1) 4 (.bool false):=(b3.block _ c1'.lt).trans c1';have hBw3:=hB1.trans (b3.mono hB1.size);have hlt2:=(Array.getElem?_eq_some_iff.1 c2').1;have h1:=g1.cell;have h2:=g1.frozen;clear cT x0 x1 x2 x3;cases Z with
  | true=>
   gi_wp2_with fail
   exact⟨keeps_below (B:=W0.heap.size) b3,Kx.of_below b3 hsW hlt2,⟨⟨g1,(b3.block _ hlt2).trans c2'⟩,HZ.out⟩,hBw3⟩
  | false=>
   gi_wp2_with fail
   exact⟨(keeps_below (B:=W0.heap.size) b3).trans ((KeepsOthers.setCell _ _ _).from _),⟨Boxed.set _ g1,rfl,HZ.out⟩,hBw3.setCell (p:=⟨w.heap.size+1,0,none⟩) (show w.heap.size<=w.heap.size+1 by omega) _⟩
 case done=>
  rintro D ys W hD hS ⟨⟨⟨c1',c2'⟩,hP⟩,hB1⟩ hK;rw[hS] at hP;have HP:=hid hP;clear hP hS;have k1:=c1'.cell;have f1:=c1'.frozen;gi_wp2_with fail
  obtain⟨W4,hW4⟩ : ∃ W4,W.setCell ⟨w.heap.size+1,0,none⟩ (.bool true)=W4:=⟨_,rfl⟩;try rw[hW4]
  have hK4:W4.heap[D]? = some (.deferred (some [])):=by
   rw[<- hW4];exact (KeepsOthers.setCell _ _ _).same D _ hK rfl
  have d1:Boxed W4 (w.heap.size+1) 4 (.bool true):=by rw[<- hW4];exact Boxed.set _ c1'
  have hB4:Below w.heap.size w W4:=by rw[<- hW4];exact hB1.setCell (p:=⟨w.heap.size+1,0,none⟩) (show w.heap.size<=w.heap.size+1 by omega) _
  clear hW4;refine⟨by simp,.inl ⟨_,_,rfl,run_takeDeferred hK4,?_⟩⟩;have g1:=cell_kept d1.cell (grownBy_putObj' _ D (.deferred none)) (fun r e=>by cases e;exact⟨_,hK4,rfl⟩);refine⟨.bool true,?_,by rw[HP.out],hB4.trans (belowK_b (w:=w) (Nat.le_refl _) _ D _ _ (by omega) hK4 rfl rfl)⟩;simp [results, Tryz.f104, go_sem, g1]
 case stop=>
  rintro D cd pre W hD hSp ⟨⟨c1',rfl,hP⟩,hB1⟩ hK;obtain⟨rest,hrest⟩:=hSp;have HP:Hid ((xsC c).all (rsv)=false):=by
   show _=_;rw[<- hrest,List.all_append,hP,Bool.false_and]
  clear hP hrest;gi_wp2
  refine⟨by simp,.inl ⟨_,_,rfl,run_takeDeferred hK,?_⟩⟩;have g1:=cell_kept c1'.cell (grownBy_putObj' _ D (.deferred none)) (fun r e=>by cases e;exact⟨_,hK,rfl⟩);refine⟨.bool false,?_,by rw[HP.out],hB1.trans (belowK_b (w:=w) (Nat.le_refl _) W D _ _ (by omega) hK rfl rfl)⟩;simp [results, Tryz.f104, go_sem, g1]
end Go.Proofs.YtdolgmmldncfkaaGreatDoor.KRs
namespace Go.Proofs.YtdolgmmldncfkaaGreatDoor.KHs
open Go.RowKit Base EPure
open XBase (four_box frozen_box Rg Four)
theorem w64 {x:Int} (h1 : -9223372036854775808<=x) (h2:x<=9223372036854775807):IntKind.i64.wrap x=x:=by
 simp [IntKind.wrap, IntKind.signed, IntKind.bits]
 omega
def hs (st:Int):List Ex->Bool
 | []=>true
 | .mk o i s l :: t=>(!(o == 6 && (decide (i<0) || decide (st<=i)))) && (hs st l && hs st t)
theorem hs_nil (st:Int):hs st []=true:=by rw[hs]
theorem hs_one (st o i:Int) (s:ByteArray) (l:List Ex):hs st [.mk o i s l]=((!(o == 6 && (decide (i<0) || decide (st<=i)))) && hs st l):=by
 rw[hs,hs_nil,Bool.and_true]
theorem hs_cons (st:Int) (x:Ex) (t:List Ex):hs st (x :: t)=(hs st [x] && hs st t):=by
 obtain⟨o,i,s,l⟩:=x;rw[hs,hs_one,Bool.and_assoc]
theorem hs_last (la o i:Int) (s:ByteArray) (l:List Ex):hs (la+1) [.mk o i s l]=((!(o == 6 && (decide (i<0) || decide (la<i)))) && hs (la+1) l):=by
 rw[hs_one];have:decide (la+1<=i)=decide (la<i):=rfl;rw[this]
def PI (m:Nat):Prop:=∀ (w:World) (v:Value) (x:Ex) (la:Int),XBase.In false (fun _=>True) w m v x ->
  Calls prog 160 #[v,.int .i64 la] w fun e w'=>e=.returned (.bool (hs (la+1) [x]))/\Below w.heap.size w w'
theorem placed_no {w:World} {o i:Int} {s:ByteArray} {l:List Ex} {a:Option Addr} {cap:Nat} {la:Int} (hf:(o == 6 && (decide (i<0) || decide (la<i)))=true) :
  Calls prog 160 #[.agg #[.int .i64 o,.int .i64 i,.string s,.slice a l.length cap],.int .i64 la] w fun e w'=>e=.returned (.bool false)/\Below w.heap.size w w':=by
 have b0:Below w.heap.size w (w.alloc (.cells #[.int .i64 o,.int .i64 i,.string s,.slice a l.length cap] 44)):=(Below.refl _ w).alloc (Nat.le_refl _) _;rw[Bool.and_eq_true] at hf;obtain⟨h6,hf⟩:=hf;cases h1:decide (i<0) with
 | true=>
  clear hf;go_enter func160,ntmps160;go_wp2_with fail
  go_ret
  exact⟨rfl,b0⟩
 | false=>
  rw[h1,Bool.false_or] at hf;go_enter func160,ntmps160;go_wp2_with fail
  go_ret
  exact⟨rfl,b0⟩
theorem placed_go {w:World} {o i:Int} {s:ByteArray} {l:List Ex} {a:Option Addr} {cap:Nat} {la:Int} (hl:l.length<=140737488351232) (hcap:l.length<=cap/\cap<=9223372036854775807) {m:Nat} (ih:PI m) (hin:XBase.InL false (fun _=>True) w m (.slice a l.length cap) l) (hf:(o == 6 && (decide (i<0) || decide (la<i)))=false) :
  Calls prog 160 #[.agg #[.int .i64 o,.int .i64 i,.string s,.slice a l.length cap],.int .i64 la] w fun e w'=>e=.returned (.bool (hs (la+1) l))/\Below w.heap.size w w':=by
 obtain⟨W0,hW0⟩ : ∃ W0,w.alloc (.cells #[.int .i64 o,.int .i64 i,.string s,.slice a l.length cap] 44)=W0:=⟨_,rfl⟩;have b0:=alB hW0;have q1:=alG hW0;obtain⟨v0,v1,v2,v3⟩:=four_box q1;have HB0:=hid b0;have HIN:=hid hin
 have Hih:=hid ih;obtain⟨T,hT⟩ : ∃ T,hs (la+1) l=T:=⟨_,rfl⟩;rw[hT];have HT:=hid hT;clear q1 b0 hin hT ih;suffices H:∀ (x6 x1 x2:Bool),(o == 6)=x6->decide (i<0)=x1->decide (la<i)=x2->(x6 && (x1 || x2))=false->Calls prog 160 #[.agg #[.int .i64 o,.int .i64 i,.string s,.slice a l.length cap],.int .i64 la] w fun e w'=>e=.returned (.bool T)/\Below w.heap.size w w' from H _ _ _ rfl rfl rfl hf
 clear hf;intro x6 x1 x2 h6 h1 h2 hx;cases x6;all_goals cases x1
 all_goals cases x2
 all_goals first | (exfalso;revert hx;decide) | skip
 all_goals
  clear hx;go_enter func160,ntmps160;go_wp2_with fail
  try rw[hW0]
  clear hW0 v0 v1 v2 v3;go_loopw [24] (fun v1 wr=>∃ (q:Nat),v1=.int .i64 q/\q<=l.length/\Below w.heap.size w wr/\hs (la+1) (l.drop q)=T) (fun v1 _=>l.length - (intOf v1).toNat)
  case atStart=>exact⟨0,rfl,by omega,HB0.out,HT.out⟩
  case round=>
   clear HB0 HT;obtain⟨q,rfl,hq,hB,hM⟩:=hrel;have HM:=hid hM;have HBR:=hid hB;clear hM hB;by_cases hlt:q<l.length
   ·have d0:decide ((q:Int)<(l.length:Int))=true:=by simp;omega
    have hinl:=HIN.out.keep (w':=wr) (fun b _ hlt=>HBR.out.block b hlt);obtain⟨aa,cc,hsl,-,-,-,-,hLA⟩:=hinl;cases hsl;obtain⟨g,of,u,ha,hSg,hFour,hInq⟩:=XBase.elem_at hLA hlt;subst ha;obtain⟨c0,c1,c2,c3,rfl,d1,d2,d3,d4⟩:=hFour;obtain⟨m',a2,cp2,-,rfl,rfl,rfl,rfl,hob,hib,hsb,-⟩:=hInq.kinds;obtain⟨y,hy⟩ : ∃ y,l[q]=y:=⟨_,rfl⟩;rw[hy] at hInq d1 d2 d3 d4;obtain⟨W4,hW4⟩ : ∃ W4,wr.alloc (.cells #[.int .i64 y.o,.int .i64 y.i,.string y.s,.slice a2 y.l.length cp2] 44)=W4:=⟨_,rfl⟩;have b4:=alB hW4;have q4:=alG hW4;obtain⟨e0',e1',e2',e3'⟩:=four_box q4;have cM:=Hih.out W4 _ y la (hInq.below b4);have hdrop:l.drop q=y :: l.drop (q+1):=by rw[<- hy];exact List.drop_eq_getElem_cons hlt
    have HST:Hid ((hs (la+1) [y] && hs (la+1) (l.drop (q+1)))=T):=by
     show _=_;rw[<- hs_cons,<- hdrop];exact HM.out
    obtain⟨Z,hZ⟩ : ∃ Z,hs (la+1) [y]=Z:=⟨_,rfl⟩;have HST2:Hid ((Z && hs (la+1) (l.drop (q+1)))=T):=by rw[<- hZ];exact HST.out
    rw[hZ] at cM;have hcapq:=hcap.1;clear hdrop HST hZ hInq q4 hLA HM hob hib hsb;go_wp2_with fail
    refine cM.mono ?_;rintro e W5 ⟨rfl,B5⟩;have HKK:=hid (nx (nx HBR.out b4) B5);clear cM B5 b4 hW4 d1 d2 d3 d4 e0' e1' e2' e3' HBR;cases Z with
    | true=>
     go_wp2_with fail
     go_roundw
     case rel=>exact⟨q+1,by go_num,by omega,HKK.out,by have:=HST2.out;rw[Bool.true_and] at this;exact this⟩
     case measure=>simp only [intOf];omega
    | false=>
     have hT:T=false:=by have:=HST2.out;rw[Bool.false_and] at this;exact this.symm
     subst hT;go_wp2_with fail
     go_ret
     exact⟨rfl,HKK.out⟩
   ·have d0:decide ((q:Int)<(l.length:Int))=false:=by simp;omega
    have hT:true=T:=by
     have:=HM.out;rw[List.drop_eq_nil_of_le (by omega),hs_nil] at this;exact this
    subst hT;go_wp2_with fail
    go_ret
    exact⟨rfl,HBR.out⟩
theorem placed_all:∀ m,PI m
 | 0=>by
  intro w v x la h;rw[XBase.In] at h;exact h.elim
 | m+1=>by
  intro w v x la h;obtain⟨o,i,s,l⟩:=x;rw[XBase.in_iff] at h;obtain⟨lv,rfl,ho,hi,hs',hl⟩:=h;have hl0:=hl;obtain⟨a,cap,rfl,h1,h2,h3,-,-⟩:=hl;rw[hs_last];cases hf:(o == 6 && (decide (i<0) || decide (la<i))) with
  | true=>exact placed_no hf
  | false=>exact placed_go (by omega) ⟨h1,h2⟩ (placed_all m) hl0 hf
theorem has_all (m:Nat) (w:World) (v:Value) (x:Ex) (st el lo:Int) (h:XBase.In false (fun _=>True) w m v x) (h1 : -9223372036854775808<st) (h2:st<=9223372036854775807) :
  Calls prog 146 #[.agg #[.int .i64 st,.int .i64 el,.int .i64 lo],v] w fun e w'=>e=.returned (.bool (hs st [x]))/\Below w.heap.size w w':=by
 obtain⟨m',a,cap,hm,rfl,-⟩ : ∃ m' a cap,m=m'+1/\v=.agg #[.int .i64 x.o,.int .i64 x.i,.string x.s,.slice a x.l.length cap]/\True:=by
  cases m with
  | zero=>rw[XBase.In] at h;exact h.elim
  | succ m=>
   obtain⟨o,i,s,l⟩:=x;rw[XBase.in_iff] at h;obtain⟨lv,rfl,-,-,-,hl⟩:=h;obtain⟨a,cap,rfl,-⟩:=hl;exact⟨m,a,cap,rfl,rfl,trivial⟩
 clear hm;obtain⟨W0,hW0⟩ : ∃ W0,(w.alloc (.cells #[.int .i64 st,.int .i64 el,.int .i64 lo] 109)).alloc (.cells #[.int .i64 x.o,.int .i64 x.i,.string x.s,.slice a x.l.length cap] 44)=W0:=⟨_,rfl⟩;have b0:Below w.heap.size w W0:=by rw[<- hW0];exact ((Below.refl _ w).alloc (Nat.le_refl _) _).alloc (by simp) _
 have q0:W0.heap[w.heap.size]? = some (.cells #[.int .i64 st,.int .i64 el,.int .i64 lo] 109 (0,0)):=by rw[<- hW0,Below.heap_alloc _ _ _ (by simp)];exact heap_alloc_new w _
 have q1:W0.heap[w.heap.size+1]? = some (.cells #[.int .i64 x.o,.int .i64 x.i,.string x.s,.slice a x.l.length cap] 44 (0,0)):=by
  have:=heap_alloc_new (w.alloc (.cells #[.int .i64 st,.int .i64 el,.int .i64 lo] 109)) (.cells #[.int .i64 x.o,.int .i64 x.i,.string x.s,.slice a x.l.length cap] 44);rw[World.size_alloc,hW0] at this;exact this
 obtain⟨v0,v1,v2,v3⟩:=four_box q1;have p0:W0.cell? ⟨w.heap.size,0,none⟩=some (.int .i64 st):=by simp [World.cell?, q0]
 have hwr:IntKind.i64.wrap (st - 1)=st - 1:=w64 (by omega) (by omega);have c1:=placed_all _ W0 _ x (st - 1) (h.below (b0.mono (Nat.le_refl _)));rw[show st - 1+1=st by omega] at c1;have HB0:=hid b0;clear b0 q0 q1 h;generalize hs st [x]=T at *
 go_enter func146,ntmps146;go_wp2_with fail
 try rw[hW0]
 refine c1.mono ?_;rintro e W1 ⟨rfl,b1⟩;have HB1:=hid (nx HB0.out b1);clear c1 b1 HB0;go_wp2_with fail
 go_ret
 exact⟨rfl,HB1.out⟩
end Go.Proofs.YtdolgmmldncfkaaGreatDoor.KHs
namespace Go.Proofs.YtdolgmmldncfkaaGreatDoor.KPc
open Go.RowKit Go.Shelf Base KBase KEx
open XBase (four_box)
open KLe (keeps_below)
attribute [local go_sem] Oper.semAt_some
open KAr (av)
theorem placed_range {m:Nat} {v:Value} {c:Co} {w:World} (hin:In false (fun _=>True) w m v c) {so eo lo si ei li:Int} (hso:0<=so/\so<=200000) (hsi:0<=si/\si<=200000) (hk:c.k≠4) :
  Calls prog 105 #[v,av so eo lo,av si ei li] w fun e w'=>e=.returned (.bool ((xsC c).all (fun x=>KHs.hs so [x])))/\Below w.heap.size w w':=by
 have hin0:=hin
 obtain⟨m',fv,pv,xv,lv,uv,rfl,rfl,-,-,hF,hP,⟨mx,hX⟩,hl,hu⟩:=hin.shape;obtain⟨a1,c1,rfl,hc1,hm1,hl1,-,hLF⟩:=hF;obtain⟨a2,c2,rfl,hc2,hm2,hl2,-,hLP⟩:=hP;obtain⟨a3,c3,rfl,hc3,hm3,hl3,-,hLX⟩:=hX;clear hin hLF hLP hLX hl hu;have hk4:(c.k == 4)=false:=by simpa using hk
 clear hk;refine (callsIn_wide (n:=6)).1 ?_;refine callsIn_of_wp_marks func105 rfl trivial ?_ rfl;simp only [ntmps105, List.size_toArray, List.length_cons, List.length_nil, Nat.reduceAdd, Nat.reduceSub, Array.replicate_succ, Array.replicate_zero, List.push_toArray, List.append_toArray, List.nil_append, List.cons_append];gi_wp2_with fail
 refine⟨trivial,?_⟩;refine (exprs_in _ _ _ _ _ _ _ _ _).mono ?_;rintro e w' ⟨rfl,rfl⟩;obtain⟨W0,hW0⟩ : ∃ W0,((((w.alloc (.cells #[.int .i64 c.k,.string c.t,.slice a1 c.f.length c1,.slice a2 c.p.length c2,.slice a3 c.x.length c3,lv,uv] 42)).alloc (.cells #[.int .i64 so,.int .i64 eo,.int .i64 lo] 109)).alloc (.cells #[.int .i64 si,.int .i64 ei,.int .i64 li] 109)).alloc (.cells #[.bool false] 4)).alloc (.cells #[.int .i64 c.k,.string c.t,.slice a1 c.f.length c1,.slice a2 c.p.length c2,.slice a3 c.x.length c3,lv,uv] 42)=W0:=⟨_,rfl⟩;have hsz:W0.heap.size=w.heap.size+5:=by rw[<- hW0];simp
 have hB0:Below w.heap.size w W0:=by
  rw[<- hW0];exact ((((((Below.refl _ w).alloc (Nat.le_refl _) _).alloc (by simp <;> omega) _).alloc (by simp <;> omega) _).alloc (by simp <;> omega) _).alloc (by simp <;> omega) _)
 have b1:Boxed W0 (w.heap.size+1+1+1) 4 (.bool false):=by
  rw[<- hW0];have:=(Boxed.new (((w.alloc (.cells #[.int .i64 c.k,.string c.t,.slice a1 c.f.length c1,.slice a2 c.p.length c2,.slice a3 c.x.length c3,lv,uv] 42)).alloc (.cells #[.int .i64 so,.int .i64 eo,.int .i64 lo] 109)).alloc (.cells #[.int .i64 si,.int .i64 ei,.int .i64 li] 109)) 4 (.bool false)).alloc (.cells #[.int .i64 c.k,.string c.t,.slice a1 c.f.length c1,.slice a2 c.p.length c2,.slice a3 c.x.length c3,lv,uv] 42);simp only [World.size_alloc] at this;exact this
 have b2:W0.heap[w.heap.size+1+1+1+1]? = some (.cells #[.int .i64 c.k,.string c.t,.slice a1 c.f.length c1,.slice a2 c.p.length c2,.slice a3 c.x.length c3,lv,uv] 42 (0,0)):=by
  rw[<- hW0];exact KLe.heap_alloc_at _ _ _ (by simp)
 have b3:W0.heap[w.heap.size+1]? = some (.cells #[.int .i64 so,.int .i64 eo,.int .i64 lo] 109 (0,0)):=by
  rw[<- hW0];iterate 3 rw[Below.heap_alloc _ _ _ (by simp;try omega)]
  exact KLe.heap_alloc_at _ _ _ (by simp)
 gi_wp2_with fail
 try rw[hW0]
 clear hW0;refine wpIn_rangeFunc_ownH rfl (by omega) (gf:=155) (lb:=#[.pointer (some ⟨w.heap.size+1+1+1+1,0,none⟩)]) rfl trivial (enters_of func155 (by kernel_rfl) rfl)
  (exprs_stops 5 (w.heap.size+1+1+1+1) w W0 hin0 hB0 b2) (fun {_ _ _} h k=>Kx.trans h k) (Kx.book (by omega) (by omega)) (Below.refl _ _) (fun _=>rfl)
  (fun pre W=>((((Boxed W (w.heap.size+1+1+1) 4 (.bool false)/\W.heap[w.heap.size+1+1+1+1]? = some (.cells #[.int .i64 c.k,.string c.t,.slice a1 c.f.length c1,.slice a2 c.p.length c2,.slice a3 c.x.length c3,lv,uv] 42 (0,0)))/\W.heap[w.heap.size+1]? = some (.cells #[.int .i64 so,.int .i64 eo,.int .i64 lo] 109 (0,0)))/\(pre.map pr).all (fun x=>KHs.hs so [x])=true)/\Below w.heap.size w W))
  (fun cd pre W=>(Boxed W (w.heap.size+1+1+1) 4 (.bool false)/\(cd=.ret/\(pre.map pr).all (fun x=>KHs.hs so [x])=false))/\Below w.heap.size w W)
  (OwnFrom.and (OwnFrom.and (OwnFrom.and (OwnFrom.and (Own.from (boxed_own _ _ _) _) (KLe.own_cells _ _ _ _ _)) (KLe.own_cells _ _ _ _ _)) (ownFrom_pure _ _)) (ownFrom_below (Nat.le_refl _) (by omega)))
  (fun cd=>OwnFrom.and (OwnFrom.and (Own.from (boxed_own _ _ _) _) (ownFrom_pure _ _)) (ownFrom_below (Nat.le_refl _) (by omega)))
  ⟨⟨⟨⟨b1,b2⟩,b3⟩,rfl⟩,hB0⟩
  (fun x a' W=>∃ Bx,w.heap.size+1+1+1+1<Bx/\W.heap[Bx]? = some (.cells x.1.1.cells 44 (0,0))/\a' = { tmps:=#[.agg #[.int .i64 c.k,.string c.t,.slice a1 c.f.length c1,.slice a2 c.p.length c2,.slice a3 c.x.length c3,lv,uv],av so eo lo,av si ei li,.pointer (some ⟨w.heap.size,0,none⟩),.pointer (some ⟨w.heap.size+1,0,none⟩),.pointer (some ⟨w.heap.size+1+1,0,none⟩),.pointer (some ⟨w.heap.size+1+1+1,0,none⟩),.pointer (some ⟨Bx,0,none⟩),.pointer (some ⟨w.heap.size,0,none⟩),.int .i64 c.k,.bool false,undef,undef,undef,undef,undef,undef,undef,undef,undef,undef,undef,undef,undef,undef,.agg #[.int .i64 c.k,.string c.t,.slice a1 c.f.length c1,.slice a2 c.p.length c2,.slice a3 c.x.length c3,lv,uv],.func (.func 155) #[] #[.pointer (some ⟨w.heap.size+1+1+1+1,0,none⟩)],x.1.1,undef,undef,undef,undef],defers:=[] })
  (fun x a' _ X Y row hs hg hr=>by
   obtain⟨Bx,h1,h2,h3⟩:=hs;refine⟨Bx,h1,(hg.block Bx (Array.getElem?_eq_some_iff.1 h2).1 (fun e=>?_)).trans h2,h3⟩;obtain⟨-,o,ho,hc⟩:=hr Bx e.symm;rw[h2] at ho;cases ho;cases hc)
  ?assign ?body ?done ?stop
 case assign=>
  rintro l pre x W K ⟨⟨⟨⟨c1',c2'⟩,c3'⟩,hP⟩,hB1⟩ hK;obtain⟨⟨u,cx⟩,mx',hx⟩:=x;have hx':XBase.In false (fun _=>True) w mx' u cx:=hx;obtain⟨mm,lv',-,rfl,-⟩:=hx'.shape;obtain⟨mm2,a4,c4,-,-,-,-,rfl,-⟩:=hx'.kinds;simp only [enc];gi_wp2
  have hlt:=(Array.getElem?_eq_some_iff.1 c2').1;exact hK _ _ ((KeepsOthers.alloc _ _).from _) (Kx.of_below ((Below.refl _ W).alloc (Nat.le_refl _) _) hB1.size hlt) ⟨⟨⟨⟨c1'.alloc _,(Below.heap_alloc _ _ _ hlt).trans c2'⟩,(Below.heap_alloc _ _ _ (show w.heap.size+1<W.heap.size by omega)).trans c3'⟩,hP⟩,hB1.alloc hB1.size _⟩ ⟨W.heap.size,hlt,heap_alloc_new W _,rfl⟩
 case body=>
  rintro l pre x a' W hl ⟨rr,hr'⟩ ⟨⟨⟨⟨c1',c2'⟩,c3'⟩,hP⟩,hB1⟩ ⟨Bx,hBx,bX,rfl⟩ hlt;obtain⟨mx',hx'⟩ : ∃ m,XBase.In false (fun _=>True) w m x.1.1 x.1.2:=x.2;obtain⟨u,hu⟩ : ∃ u,x.1.1=u:=⟨_,rfl⟩;obtain⟨cx,hcx⟩ : ∃ cx,x.1.2=cx:=⟨_,rfl⟩;have Hpr:Hid (pr x=cx):=hcx;rw[hu,hcx] at hx';rw[hu] at bX;rw[hu];clear hu hcx;obtain⟨mm,lv',-,rfl,-⟩:=hx'.shape;have bX':W.heap[Bx]? = some (.cells #[.int .i64 cx.o,.int .i64 cx.i,.string cx.s,lv'] 44 (0,0)):=bX;obtain⟨x0,x1,x2,x3⟩:=four_box bX';obtain⟨y0,y1,y2⟩:=KAr.three_box c3';have cT:=CallsIn.inRound l (callsIn_wide (n:=3).2 (KHs.has_all _ W _ cx so eo lo (hx'.below hB1) (by omega) (by omega)));obtain⟨Z,hZ⟩ : ∃ Z,KHs.hs so [cx]=Z:=⟨_,rfl⟩;rw[hZ] at cT;have HZ:Hid (((pre ++ [x]).map pr).all (fun x=>KHs.hs so [x])=Z):=by
   show _=_;rw[List.map_append,List.map_cons,List.map_nil,Hpr.out,List.all_append,hP,List.all_cons,List.all_nil,Bool.true_and,Bool.and_true,hZ]
  clear hZ bX bX';gi_wp2_with fail
  refine⟨trivial,?_⟩;refine cT.mono ?_;rintro e W3 ⟨rfl,b3⟩;have hsW:=hB1.size;have g1:Boxed W3 (w.heap.size+1+1+1) 4 (.bool false):=(b3.block _ c1'.lt).trans c1';have hBw3:=hB1.trans (b3.mono hB1.size);have hlt2:=(Array.getElem?_eq_some_iff.1 c2').1;have h1:=g1.cell;have h2:=g1.frozen;clear cT x0 x1 x2 x3;cases Z with
  | true=>
   gi_wp2_with fail
   exact⟨keeps_below (B:=W0.heap.size) b3,Kx.of_below b3 hsW hlt2,⟨⟨⟨g1,(b3.block _ hlt2).trans c2'⟩,(b3.block _ (show w.heap.size+1<W.heap.size by omega)).trans c3'⟩,HZ.out⟩,hBw3⟩
  | false=>
   gi_wp2_with fail
   exact⟨(keeps_below (B:=W0.heap.size) b3).trans ((KeepsOthers.setCell _ _ _).from _),⟨Boxed.set _ g1,rfl,HZ.out⟩,hBw3.setCell (p:=⟨w.heap.size+1+1+1,0,none⟩) (show w.heap.size<=w.heap.size+1+1+1 by omega) _⟩
 case done=>
  rintro D ys W hD hS ⟨⟨⟨⟨c1',c2'⟩,c3'⟩,hP⟩,hB1⟩ hK;rw[hS] at hP;have HP:=hid hP;clear hP hS;have k1:=c1'.cell;have f1:=c1'.frozen;gi_wp2_with fail
  obtain⟨W4,hW4⟩ : ∃ W4,W.setCell ⟨w.heap.size+1+1+1,0,none⟩ (.bool true)=W4:=⟨_,rfl⟩;try rw[hW4]
  have hK4:W4.heap[D]? = some (.deferred (some [])):=by
   rw[<- hW4];exact (KeepsOthers.setCell _ _ _).same D _ hK rfl
  have d1:Boxed W4 (w.heap.size+1+1+1) 4 (.bool true):=by rw[<- hW4];exact Boxed.set _ c1'
  have hB4:Below w.heap.size w W4:=by rw[<- hW4];exact hB1.setCell (p:=⟨w.heap.size+1+1+1,0,none⟩) (show w.heap.size<=w.heap.size+1+1+1 by omega) _
  clear hW4;refine⟨by simp,.inl ⟨_,_,rfl,run_takeDeferred hK4,?_⟩⟩;have g1:=cell_kept d1.cell (grownBy_putObj' _ D (.deferred none)) (fun r e=>by cases e;exact⟨_,hK4,rfl⟩);refine⟨.bool true,?_,by rw[HP.out],hB4.trans (belowK_b (w:=w) (Nat.le_refl _) _ D _ _ (by omega) hK4 rfl rfl)⟩;simp [results, Tryz.f105, go_sem, g1]
 case stop=>
  rintro D cd pre W hD hSp ⟨⟨c1',rfl,hP⟩,hB1⟩ hK;obtain⟨rest,hrest⟩:=hSp;have HP:Hid ((xsC c).all (fun x=>KHs.hs so [x])=false):=by
   show _=_;rw[<- hrest,List.all_append,hP,Bool.false_and]
  clear hP hrest;gi_wp2
  refine⟨by simp,.inl ⟨_,_,rfl,run_takeDeferred hK,?_⟩⟩;have g1:=cell_kept c1'.cell (grownBy_putObj' _ D (.deferred none)) (fun r e=>by cases e;exact⟨_,hK,rfl⟩);refine⟨.bool false,?_,by rw[HP.out],hB1.trans (belowK_b (w:=w) (Nat.le_refl _) W D _ _ (by omega) hK rfl rfl)⟩;simp [results, Tryz.f105, go_sem, g1]
end Go.Proofs.YtdolgmmldncfkaaGreatDoor.KPc

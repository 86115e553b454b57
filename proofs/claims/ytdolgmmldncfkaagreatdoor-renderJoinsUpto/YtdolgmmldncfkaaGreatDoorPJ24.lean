import Derived.BigQuiet
import Derived.Deep.RegionHeld3
import Derived.LoopIn
import Derived.LoopNIn
import Derived.OwnWalkIn
import Derived.RangeFuncBound
import Derived.RangeFuncCalls
import Derived.RangeFuncLeaves
import Derived.RangeFuncNested
import Derived.Shelf.Abstract
import Derived.Shelf.RegionOpen
import Derived.TacticsInMore
import Derived.Test.YtdolgmmldncfkaaGreatDoorPJ03
import Derived.Test.YtdolgmmldncfkaaGreatDoorPJ23
open Go.Proofs.Tryz
set_option linter.unusedVariables false
set_option maxRecDepth 100000
set_option maxHeartbeats 4000000
namespace Go.Proofs.YtdolgmmldncfkaaGreatDoor.KAr
open Go.RowKit Base
open SFit (ne ret_bool)
open XBase (frozen_box)
abbrev cv (k:Int) (t:ByteArray) (a1:Option Addr) (n1 c1:Nat) (a2:Option Addr) (n2 c2:Nat) (a3:Option Addr) (n3 c3:Nat) (a4:Option Addr) (n4 c4:Nat) (a5:Option Addr) (n5 c5:Nat):Value:=
 .agg #[.int .i64 k,.string t,.slice a1 n1 c1,.slice a2 n2 c2,.slice a3 n3 c3,.slice a4 n4 c4,.slice a5 n5 c5]
abbrev av (s e l:Int):Value:=.agg #[.int .i64 s,.int .i64 e,.int .i64 l]
def bare (t:ByteArray) (n1 n2 n3 n4 n5:Nat):Bool:=(t.size == 0) && (((n1:Int) == 0) && (((n2:Int) == 0) && (((n3:Int) == 0) && (((n4:Int) == 0) && ((n5:Int) == 0)))))
theorem bare_c (k:Int) (t:ByteArray) (a1:Option Addr) (n1 c1:Nat) (a2:Option Addr) (n2 c2:Nat) (a3:Option Addr) (n3 c3:Nat) (a4:Option Addr) (n4 c4:Nat) (a5:Option Addr) (n5 c5:Nat) (w:World) :
  Calls prog 157 #[cv k t a1 n1 c1 a2 n2 c2 a3 n3 c3 a4 n4 c4 a5 n5 c5] w fun e w'=>e=.returned (.bool (bare t n1 n2 n3 n4 n5))/\Below w.heap.size w w':=by
 have b0:Below w.heap.size w (w.alloc (.cells #[.int .i64 k,.string t,.slice a1 n1 c1,.slice a2 n2 c2,.slice a3 n3 c3,.slice a4 n4 c4,.slice a5 n5 c5] 42)):=(Below.refl _ w).alloc (Nat.le_refl _) _;unfold bare;have hne:=ne t;suffices H:∀ (x0 x1 x2 x3 x4 x5:Bool),t.toList.isEmpty=x0->((n1:Int) == 0)=x1->((n2:Int) == 0)=x2->((n3:Int) == 0)=x3->((n4:Int) == 0)=x4->((n5:Int) == 0)=x5->Calls prog 157 #[cv k t a1 n1 c1 a2 n2 c2 a3 n3 c3 a4 n4 c4 a5 n5 c5] w fun e w'=>e=.returned (.bool (x0 && (x1 && (x2 && (x3 && (x4 && x5))))))/\Below w.heap.size w w' by
  have:=H _ _ _ _ _ _ rfl rfl rfl rfl rfl rfl;rw[hne] at this;exact this
 clear hne;intro x0 x1 x2 x3 x4 x5 h0 h1 h2 h3 h4 h5;cases x0 with
 | false=>(go_enter func157,ntmps157;go_wp2_with fail;go_ret;exact⟨ret_bool rfl,b0⟩)
 | true=>cases x1 with
  | false=>(go_enter func157,ntmps157;go_wp2_with fail;go_ret;exact⟨ret_bool rfl,b0⟩)
  | true=>cases x2 with
   | false=>(go_enter func157,ntmps157;go_wp2_with fail;go_ret;exact⟨ret_bool rfl,b0⟩)
   | true=>cases x3 with
    | false=>(go_enter func157,ntmps157;go_wp2_with fail;go_ret;exact⟨ret_bool rfl,b0⟩)
    | true=>cases x4 with
     | false=>(go_enter func157,ntmps157;go_wp2_with fail;go_ret;exact⟨ret_bool rfl,b0⟩)
     | true=>(go_enter func157,ntmps157;go_wp2_with fail;go_ret;exact⟨ret_bool rfl,b0⟩)
def deep (s e l:Int):Bool:=decide (64<s) || (decide (63<e) || decide (8<l))
theorem deep_c (s e l:Int) (w:World):Calls prog 103 #[av s e l] w fun x w'=>x=.returned (.bool (deep s e l))/\Below w.heap.size w w':=by
 have b0:Below w.heap.size w (w.alloc (.cells #[.int .i64 s,.int .i64 e,.int .i64 l] 109)):=(Below.refl _ w).alloc (Nat.le_refl _) _;unfold deep;suffices H:∀ (x0 x1 x2:Bool),decide (64<s)=x0->decide (63<e)=x1->decide (8<l)=x2->Calls prog 103 #[av s e l] w fun x w'=>x=.returned (.bool (x0 || (x1 || x2)))/\Below w.heap.size w w' from H _ _ _ rfl rfl rfl
 intro x0 x1 x2 h0 h1 h2;cases x0;all_goals try cases x1
 all_goals
  go_enter func103,ntmps103;go_wp2_with fail
  go_ret
  exact⟨ret_bool rfl,b0⟩
theorem heap_setCell_same (w:World) (B j:Nat) (cs:Array Value) (t:TypeId) (v:Value) (h:w.heap[B]? = some (.cells cs t (0,0))):(w.setCell ⟨B,j,none⟩ v).heap[B]? = some (.cells (cs.setIfInBounds j v) t (0,0)):=by
 simp [World.setCell, Array.getElem?_modify, h]
theorem three_new (w:World) (c0 c1 c2:Array Value) (t0 t1 t2:TypeId):∃ W,((w.alloc (.cells c0 t0)).alloc (.cells c1 t1)).alloc (.cells c2 t2)=W/\Below w.heap.size w W/\W.heap.size=w.heap.size+3/\W.heap[w.heap.size]? = some (.cells c0 t0 (0,0))/\W.heap[w.heap.size+1]? = some (.cells c1 t1 (0,0))/\W.heap[w.heap.size+1+1]? = some (.cells c2 t2 (0,0)):=by
 refine⟨_,rfl,(((Below.refl _ w).alloc (Nat.le_refl _) _).alloc (by simp) _).alloc (by simp;omega) _,by simp,?_,?_,?_⟩
 ·rw[Below.heap_alloc _ _ _ (by simp;omega),Below.heap_alloc _ _ _ (by simp)];exact heap_alloc_new w _
 ·have:=heap_alloc_new (w.alloc (.cells c0 t0)) (.cells c1 t1)
  rw[World.size_alloc] at this;rw[Below.heap_alloc _ _ _ (by simp)];exact this
 ·have:=heap_alloc_new ((w.alloc (.cells c0 t0)).alloc (.cells c1 t1)) (.cells c2 t2)
  rw[World.size_alloc,World.size_alloc] at this;exact this
theorem three_box {w:World} {B:Nat} {v0 v1 v2:Value} {t:TypeId} (h:w.heap[B]? = some (.cells #[v0,v1,v2] t (0,0))) :
  w.cell? ⟨B,0,none⟩=some v0/\w.cell? ⟨B,1,none⟩=some v1/\w.cell? ⟨B,2,none⟩=some v2:=by
 refine⟨?_,?_,?_⟩ <;> simp [World.cell?, h]
theorem set3 {w:World} {B:Nat} {u0 u1 u2:Value} (v0 v1 v2:Value) {t:TypeId} (h:w.heap[B]? = some (.cells #[u0,u1,u2] t (0,0))) {W:World} (hW:((w.setCell ⟨B,0,none⟩ v0).setCell ⟨B,1,none⟩ v1).setCell ⟨B,2,none⟩ v2=W) :
  W.heap[B]? = some (.cells #[v0,v1,v2] t (0,0))/\(∀ n X,n<=B->Below n X w->Below n X W)/\(∀ b,b≠B->W.heap[b]? = w.heap[b]?):=by
 subst hW;refine⟨?_,fun n X hn hX=>?_,fun b hb=>?_⟩
 ·exact heap_setCell_same _ _ _ _ _ _ (heap_setCell_same _ _ _ _ _ _ (heap_setCell_same _ _ _ _ _ _ h))
 ·exact ((hX.setCell (p:=⟨B,0,none⟩) hn _).setCell (p:=⟨B,1,none⟩) hn _).setCell (p:=⟨B,2,none⟩) hn _
 ·rw[Below.heap_setCell _ _ _ _ hb,Below.heap_setCell _ _ _ _ hb,Below.heap_setCell _ _ _ _ hb]
end Go.Proofs.YtdolgmmldncfkaaGreatDoor.KAr
namespace Go.Proofs.YtdolgmmldncfkaaGreatDoor.KEx
open Go.RowKit Go.Shelf Base EPure KBase
open XBase (four_box)
attribute [local go_sem] Oper.semAt_some
def ex1 (l:List Fld):List Ex:=(l.filter Fld.b).map Fld.e
def ex2 (l:List Pt):List Ex:=(l.filter Pt.b).map Pt.e
def xsC (c:Co):List Ex:=ex1 c.f ++ (ex2 c.p ++ c.x)
theorem ex1_yes (l:List Fld) (q:Nat) (h:q<l.length) (hb:l[q].b=true):ex1 (l.take (q+1))=ex1 (l.take q) ++ [l[q].e]:=by
 unfold ex1;rw[List.take_add_one,List.getElem?_eq_getElem h,List.filter_append,List.map_append];simp only [Option.toList_some, List.filter_cons, hb, List.filter_nil, if_true, List.map_cons, List.map_nil]
theorem ex1_no (l:List Fld) (q:Nat) (h:q<l.length) (hb:l[q].b=false):ex1 (l.take (q+1))=ex1 (l.take q):=by
 unfold ex1;rw[List.take_add_one,List.getElem?_eq_getElem h,List.filter_append,List.map_append];simp only [Option.toList_some, List.filter_cons, hb, List.filter_nil, List.map_nil, Bool.false_eq_true, if_false, List.append_nil]
theorem ex2_yes (l:List Pt) (q:Nat) (h:q<l.length) (hb:l[q].b=true):ex2 (l.take (q+1))=ex2 (l.take q) ++ [l[q].e]:=by
 unfold ex2;rw[List.take_add_one,List.getElem?_eq_getElem h,List.filter_append,List.map_append];simp only [Option.toList_some, List.filter_cons, hb, List.filter_nil, if_true, List.map_cons, List.map_nil]
theorem ex2_no (l:List Pt) (q:Nat) (h:q<l.length) (hb:l[q].b=false):ex2 (l.take (q+1))=ex2 (l.take q):=by
 unfold ex2;rw[List.take_add_one,List.getElem?_eq_getElem h,List.filter_append,List.map_append];simp only [Option.toList_some, List.filter_cons, hb, List.filter_nil, List.map_nil, Bool.false_eq_true, if_false, List.append_nil]
theorem ex1_pre (l:List Fld) (q:Nat):ex1 (l.take q) <+: ex1 l:=by
 refine⟨ex1 (l.drop q),?_⟩;unfold ex1;rw[<- List.map_append,<- List.filter_append,List.take_append_drop]
theorem ex2_pre (l:List Pt) (q:Nat):ex2 (l.take q) <+: ex2 l:=by
 refine⟨ex2 (l.drop q),?_⟩;unfold ex2;rw[<- List.map_append,<- List.filter_append,List.take_append_drop]
theorem room_none (k:Nat):Fence.wide.room k:=fun d h=>by cases h
theorem round_any {m m':Nat} {P:Program} {l:Nat} {f:FuncId} {tmps:Array Value} {assign body:Code} {w:World} {R:Ending->World->Prop}
  (h:RoundIn Fence.wide m P l f tmps assign body w R):RoundIn Fence.wide m' P l f tmps assign body w R:=⟨h.1,fun c cs _=>h.2 c cs (room_none _)⟩
theorem yield_any {m:Nat} (m':Nat) {P:Program} {l:Nat} {args:Array Value} {W:World} {R:Ending->World->Prop} (h:YieldAt Fence.wide m P l args W R):YieldAt Fence.wide m' P l args W R:=by
 obtain⟨fn,tmps,assign,body,hy,hR⟩:=h;exact⟨fn,tmps,assign,body,hy,round_any hR⟩
def Al (w0:World):Type:={ x:Value × Ex // ∃ m,XBase.In false (fun _=>True) w0 m x.1 x.2 }
def pr {w0:World} (x:Al w0):Ex:=x.1.2
def enc {w0:World} (x:Al w0):Array Value:=#[x.1.1]
def Kx (n0 n1 B:Nat) (W W':World):Prop:=(Below n0 W W'/\∀ b c t fz,n1<=b->W.heap[b]? = some (.cells c t fz)->W'.heap[b]? = some (.cells c t fz))/\W'.heap[B]? = W.heap[B]?
theorem Kx.trans {n0 n1 B:Nat} {A C D:World} (h:Kx n0 n1 B A C) (k:Kx n0 n1 B C D):Kx n0 n1 B A D:=⟨⟨h.1.1.trans k.1.1,fun b c t fz hb hc=>k.1.2 b c t fz hb (h.1.2 b c t fz hb hc)⟩,k.2.trans h.2⟩
theorem Kx.refl (n0 n1 B:Nat) (A:World):Kx n0 n1 B A A:=⟨⟨Below.refl _ _,fun _ _ _ _ _ h=>h⟩,rfl⟩
theorem Kx.of_below {n0 n1 B:Nat} {A C:World} (h:Below A.heap.size A C) (hn:n0<=A.heap.size) (hB:B<A.heap.size):Kx n0 n1 B A C:=
 ⟨⟨h.mono hn,fun b c t fz _ hc=>(h.block b (Array.getElem?_eq_some_iff.1 hc).1).trans hc⟩,h.block B hB⟩
theorem Kx.book {n0 n1 B:Nat} {w:World} (hn:n0<=w.heap.size) (hB:B<w.heap.size) (W:World) (l:Nat) (o o':Obj) (hl:w.heap.size<=l) (h:W.heap[l]? = some o) (ho:o.isCells=false) (hw:o.isWalk=false):Kx n0 n1 B W (W.putObj l o'):=by
 refine⟨⟨belowK_b hn W l o o' hl h ho hw,fun b c t fz _ hc=>?_⟩,World.putObj_heap_other (by omega)⟩;by_cases e:b=l
 ·subst e
  rw[h] at hc;cases hc;cases ho
 ·rw[World.putObj_heap_other (fun h=>e h)]
  exact hc
theorem Kx.set {n0 n1 B:Nat} (W:World) (b:Nat) (u:Value) (h0:n0<=b) (h1:b<n1) (hB:B≠b):Kx n0 n1 B W (W.setCell ⟨b,0,none⟩ u):=
 ⟨⟨(Below.refl _ W).setCell (p:=⟨b,0,none⟩) h0 u,fun b' c t fz hb hc=>by rw[Below.heap_setCell _ _ _ _ (by simp;omega)];exact hc⟩,Below.heap_setCell _ _ _ _ hB⟩
theorem exprs_in (n:Nat) (v0 v1 v2 v3 v4 v5 v6:Value) (w:World) :
  CallsIn Fence.wide n prog 139 #[.agg #[v0,v1,v2,v3,v4,v5,v6]] w fun e w'=>e=.returned (.func (.func 155) #[] #[.pointer (some ⟨w.heap.size,0,none⟩)])/\w'=w.alloc (.cells #[v0,v1,v2,v3,v4,v5,v6] 42):=by
 refine callsIn_of_wp func139 rfl trivial ?_ rfl;simp only [ntmps139, List.size_toArray, List.length_cons, List.length_nil, Nat.reduceAdd, Nat.reduceSub, Array.replicate_succ, Array.replicate_zero, List.push_toArray, List.append_toArray, List.nil_append, List.cons_append];gi_wp2
 go_ret
 exact⟨rfl,rfl⟩
theorem exprs_stops (n B:Nat) (w0 wl:World) {m:Nat} {v0 v1 v2 v3 v4 v5 v6:Value} {c:Co} (hin:In false (fun _=>True) w0 m (.agg #[v0,v1,v2,v3,v4,v5,v6]) c) (hB:Below w0.heap.size w0 wl) (hx:wl.heap[B]? = some (.cells #[v0,v1,v2,v3,v4,v5,v6] 42 (0,0))) :
  SeqStopsK Fence.wide n prog 155 #[.pointer (some ⟨B,0,none⟩)] (enc (w0:=w0)) (Kx w0.heap.size wl.heap.size B) (fun ys=>ys.map pr=xsC c) (fun pre=>pre.map pr <+: xsC c) (xsC c).length wl:=by
 intro l J Jx W hW hJ hJx hY0 h0;have hdd:∀ k:Nat,(Fence.wide.depth.isSome=true->1<=k):=fun k h=>by cases h
 have hlt:=(Array.getElem?_eq_some_iff.1 hx).1;have hJa:∀ s W o,J s W->J s (W.alloc o):=fun s W o h=>hJ s W _ none h (World.grownBy_alloc W o none) (fun r e=>by cases e)
 have hY:=fun m pre x W hj hl=>yield_any m (hY0 pre x W hj hl)
 obtain⟨m',fv,pv,xv,lv,uv,rfl,he,-,-,hF,hP,⟨mx,hX⟩,-,-⟩:=hin.shape;simp only [Value.agg.injEq, Array.mk.injEq, List.cons.injEq, and_true] at he;obtain⟨rfl,rfl,rfl,rfl,rfl,rfl,rfl⟩:=he;obtain⟨a1,c1,rfl,hc1,hm1,hl1,-,hLF⟩:=hF;obtain⟨a2,c2,rfl,hc2,hm2,hl2,-,hLP⟩:=hP;obtain⟨a3,c3,rfl,hc3,hm3,hl3,-,hLX⟩:=hX;have hBW:=hB.trans (hW.mono hB.size);have hxW:=(hW.block B hlt).trans hx;obtain⟨d0,d1,d2,d3,d4,d5,d6⟩:=seven_box hxW;have hWl:=hW.size;have hw0:=hB.size;have Hxs:Hid (xsC c=ex1 c.f ++ (ex2 c.p ++ c.x)):=rfl;have HN:Hid ((xsC c).length=(ex1 c.f).length+((ex2 c.p).length+c.x.length)):=by show _=_;rw[Hxs.out];simp
 have HxW:=hid hxW;have HLF:=hid hLF;have HLP:=hid hLP;have HLX:=hid hLX;have HBW:=hid hBW;obtain⟨N,hN⟩ : ∃ N,(xsC c).length=N:=⟨_,rfl⟩;have HN2:=hid (HN.out.symm.trans hN);rw[hN] at hY;clear hin hJ hJx hY0 hxW hLF hLP hLX hBW HN hN hx;show CallsIn Fence.wide n prog 155 #[.func (.yield l) #[] #[],.pointer (some ⟨B,0,none⟩)] W _;refine callsIn_of_wp func155 rfl trivial ?_ rfl;simp only [ntmps155, List.size_toArray, List.length_cons, List.length_nil, Nat.reduceAdd, Nat.reduceSub, Array.replicate_succ, Array.replicate_zero, List.push_toArray, List.append_toArray, List.nil_append, List.cons_append];gi_wp2_with fail
 clear d0 d1 d2 d3 d4 d5 d6;gi_loopw [12] (fun i' wr=>∃ (q:Nat) (xs:List (Al w0)),q<=c.f.length/\i'=.int .i64 q/\xs.map pr=ex1 (c.f.take q)/\J xs wr/\Kx w0.heap.size wl.heap.size B W wr) (fun i' _=>c.f.length - (intOf i').toNat)
 case atStart=>exact⟨0,[],by omega,rfl,rfl,h0,Kx.refl _ _ _ _⟩
 case round=>
  clear h0;obtain⟨q,xs,hq,rfl,hxs,hJs,hk⟩:=hrel;have Hxs1:=hid hxs;have hBr:=HBW.out.trans hk.1.1;have hwr:=hBr.size;have hwl:=Nat.le_trans hWl hk.1.1.size;clear hxs;by_cases hlt':q<c.f.length
  ·have d0:decide ((q:Int)<(c.f.length:Int))=true:=by simp;omega
   obtain⟨g,o,u,ha,-,hu,hi⟩:=RwAt.elem HLF.out hlt';subst ha;obtain⟨t0,t1,t2,e0,e1,e2,e3,t7,rfl,k0,k1,k2,k3,k4,k5,k6,k7⟩:=hu;obtain⟨ea,ec,rfl,rfl,rfl,rfl,rfl,rfl,rfl,rfl,-,-,-,-⟩:=hi.eight;obtain⟨-,-,-,-,-,-,-,me,hie⟩:=hi.kinds;have k0:=below_cell k0 hBr;have k1:=below_cell k1 hBr;have k2:=below_cell k2 hBr;have k3:=below_cell k3 hBr;have k4:=below_cell k4 hBr;have k5:=below_cell k5 hBr;have k6:=below_cell k6 hBr;have k7:=below_cell k7 hBr;obtain⟨y,hy⟩ : ∃ y,c.f[q]=y:=⟨_,rfl⟩;have Hy:=hid hy;rw[hy] at k0 k1 k2 k3 k4 k5 k6 k7 hie;obtain⟨W1,hW1⟩ : ∃ W1,wr.alloc (.cells #[.string y.n,.string y.p,.bool y.b,.int .i64 y.e.o,.int .i64 y.e.i,.string y.e.s,.slice ea y.e.l.length ec,.int .i64 y.a] 104)=W1:=⟨_,rfl⟩;have b1:=alB hW1;have q1:=alG hW1;have hJ1:J xs W1:=by rw[<- hW1];exact hJa _ _ _ hJs
   have hk1:Kx w0.heap.size wl.heap.size B W W1:=hk.trans (Kx.of_below b1 hwr (by omega));obtain⟨z0,z1,z2,z3,z4,z5,z6,z7⟩:=eight_box q1;have hcc:=hc1;clear b1 q1 hy hk hJs;obtain⟨b,hb⟩ : ∃ b,y.b=b:=⟨_,rfl⟩;rw[hb] at z2 k2 hW1;have Hb:=hid hb;clear hb;cases b with
   | true=>
    obtain⟨x0,hx0⟩ : ∃ x0:Al w0,x0=⟨(.agg #[.int .i64 y.e.o,.int .i64 y.e.i,.string y.e.s,.slice ea y.e.l.length ec],y.e),me,hie⟩:=⟨_,rfl⟩;have Hpr:Hid (pr x0=y.e):=by show _=_;rw[hx0];rfl
    have henc:enc x0 = #[.agg #[.int .i64 y.e.o,.int .i64 y.e.i,.string y.e.s,.slice ea y.e.l.length ec]]:=by rw[hx0];rfl
    have Hst:Hid (ex1 (c.f.take (q+1))=ex1 (c.f.take q) ++ [y.e]):=by show _=_;rw[ex1_yes c.f q hlt' (by rw[Hy.out];exact Hb.out),Hy.out]
    have Hall:Hid ((xs ++ [x0]).map pr=ex1 (c.f.take (q+1))):=by show _=_;rw[List.map_append,Hxs1.out,List.map_cons,List.map_nil,Hpr.out,Hst.out]
    have Hpre:Hid ((xs ++ [x0]).map pr <+: xsC c):=by
     show _ <+: _;rw[Hall.out,Hxs.out];exact (ex1_pre c.f (q+1)).trans ⟨_,rfl⟩
    have hlen2:xs.length<N:=by
     have e1:=Hpre.out.length_le;rw[List.length_map,List.length_append] at e1;have e2:=HN2.out;have e3:(xsC c).length=(ex1 c.f).length+((ex2 c.p).length+c.x.length):=by rw[Hxs.out];simp
     simp only [List.length_cons, List.length_nil] at e1;omega
    obtain⟨fn,tmps,assign,body,hyd,hR⟩:=hY (n - 1) xs x0 W1 hJ1 hlen2;rw[henc] at hyd;clear hx0 henc hie;gi_wp2_with fail
    refine⟨hdd _,?_⟩;refine hR.mono ?_;clear hR hyd;rintro e W2 (⟨rfl,hJ2,hk2⟩|⟨rfl,hx2⟩)
    ·have hkk:=hk1.trans hk2
     clear hk1 hk2 hJ1 k0 k1 k2 k3 k4 k5 k6 k7 z0 z1 z2 z3 z4 z5 z6 z7 hW1;gi_wp2_with fail
     go_roundw
     case rel=>exact⟨q+1,xs ++ [x0],by omega,by go_num,Hall.out,hJ2,hkk⟩
     case measure=>simp only [intOf];omega
    ·clear hk1 hJ1 k0 k1 k2 k3 k4 k5 k6 k7 z0 z1 z2 z3 z4 z5 z6 z7 hW1
     gi_wp2_with fail
     refine bodyPost_ret (results_none rfl _ _ _) rfl ?_;exact⟨⟨_,rfl⟩,.inr ⟨xs ++ [x0],Hpre.out,hx2⟩⟩
   | false=>
    have Hst:Hid (ex1 (c.f.take (q+1))=ex1 (c.f.take q)):=ex1_no c.f q hlt' (by rw[Hy.out];exact Hb.out);have Hall:Hid (xs.map pr=ex1 (c.f.take (q+1))):=by show _=_;rw[Hxs1.out,Hst.out]
    clear hie;gi_wp2_with fail
    refine⟨fun f h=>(by cases h),?_⟩;gi_wp2_with fail
    go_roundw
    case rel=>exact⟨q+1,xs,by omega,by go_num,Hall.out,hJ1,hk1⟩
    case measure=>simp only [intOf];omega
  ·have dn1:decide ((q:Int)<(c.f.length:Int))=false:=by simp;omega
   have dm1:decide (q<c.f.length)=false:=by simp;omega
   obtain⟨d0',d1',d2',d3',d4',d5',d6'⟩:=seven_box (hk.2.trans HxW.out);gi_wp2_with fail
   clear d0' d1' d2' d3' d4' d5' d6';obtain⟨Wa,hWa⟩ : ∃ Wa,Wa=wr:=⟨_,rfl⟩;subst hWa;gi_loopw [29] (fun i' wr=>∃ (q:Nat) (xs:List (Al w0)),q<=c.p.length/\i'=.int .i64 q/\xs.map pr=ex1 c.f ++ ex2 (c.p.take q)/\J xs wr/\Kx w0.heap.size wl.heap.size B W wr) (fun i' _=>c.p.length - (intOf i').toNat)
   case atStart=>exact⟨0,xs,by omega,rfl,by rw[Hxs1.out,List.take_of_length_le (by omega)];simp [ex2],hJs,hk⟩
   case round=>
    clear hJs hk Hxs1 hBr hwr hwl;obtain⟨q,xs,hq,rfl,hxs,hJs,hk⟩:=hrel;have Hxs1:=hid hxs;have hBr:=HBW.out.trans hk.1.1;have hwr:=hBr.size;have hwl:=Nat.le_trans hWl hk.1.1.size;clear hxs;by_cases hlt':q<c.p.length
    ·have d0:decide ((q:Int)<(c.p.length:Int))=true:=by simp;omega
     obtain⟨g,o,u,ha,-,hu,hi⟩:=RwAt.elem HLP.out hlt';subst ha;obtain⟨t0,t1,e0,e1,e2,e3,rfl,k0,k1,k2,k3,k4,k5⟩:=hu;obtain⟨ea,ec,rfl,rfl,rfl,rfl,rfl,rfl,-,-⟩:=hi.six;obtain⟨-,-,-,me,hie⟩:=hi.kinds;have k0:=below_cell k0 hBr;have k1:=below_cell k1 hBr;have k2:=below_cell k2 hBr;have k3:=below_cell k3 hBr;have k4:=below_cell k4 hBr;have k5:=below_cell k5 hBr;obtain⟨y,hy⟩ : ∃ y,c.p[q]=y:=⟨_,rfl⟩;have Hy:=hid hy;rw[hy] at k0 k1 k2 k3 k4 k5 hie;obtain⟨W1,hW1⟩ : ∃ W1,wr.alloc (.cells #[.string y.p,.bool y.b,.int .i64 y.e.o,.int .i64 y.e.i,.string y.e.s,.slice ea y.e.l.length ec] 65)=W1:=⟨_,rfl⟩;have b1:=alB hW1;have q1:=alG hW1;have hJ1:J xs W1:=by rw[<- hW1];exact hJa _ _ _ hJs
     have hk1:Kx w0.heap.size wl.heap.size B W W1:=hk.trans (Kx.of_below b1 hwr (by omega));obtain⟨z0,z1,z2,z3,z4,z5⟩:=six_box q1;have hcc:=hc2;clear b1 q1 hy hk hJs;obtain⟨b,hb⟩ : ∃ b,y.b=b:=⟨_,rfl⟩;rw[hb] at z1 k1 hW1;have Hb:=hid hb;clear hb;cases b with
     | true=>
      obtain⟨x0,hx0⟩ : ∃ x0:Al w0,x0=⟨(.agg #[.int .i64 y.e.o,.int .i64 y.e.i,.string y.e.s,.slice ea y.e.l.length ec],y.e),me,hie⟩:=⟨_,rfl⟩;have Hpr:Hid (pr x0=y.e):=by show _=_;rw[hx0];rfl
      have henc:enc x0 = #[.agg #[.int .i64 y.e.o,.int .i64 y.e.i,.string y.e.s,.slice ea y.e.l.length ec]]:=by rw[hx0];rfl
      have Hst:Hid (ex2 (c.p.take (q+1))=ex2 (c.p.take q) ++ [y.e]):=by show _=_;rw[ex2_yes c.p q hlt' (by rw[Hy.out];exact Hb.out),Hy.out]
      have Hall:Hid ((xs ++ [x0]).map pr=ex1 c.f ++ ex2 (c.p.take (q+1))):=by show _=_;rw[List.map_append,Hxs1.out,List.map_cons,List.map_nil,Hpr.out,Hst.out];simp
      have Hpre:Hid ((xs ++ [x0]).map pr <+: xsC c):=by
       show _ <+: _;rw[Hall.out,Hxs.out];exact (List.prefix_append_right_inj _).2 ((ex2_pre c.p (q+1)).trans ⟨_,rfl⟩)
      have hlen2:xs.length<N:=by
       have e1:=Hpre.out.length_le;rw[List.length_map,List.length_append] at e1;have e2:=HN2.out;have e3:(xsC c).length=(ex1 c.f).length+((ex2 c.p).length+c.x.length):=by rw[Hxs.out];simp
       simp only [List.length_cons, List.length_nil] at e1;omega
      obtain⟨fn,tmps,assign,body,hyd,hR⟩:=hY (n - 1) xs x0 W1 hJ1 hlen2;rw[henc] at hyd;clear hx0 henc hie;gi_wp2_with fail
      refine⟨hdd _,?_⟩;refine hR.mono ?_;clear hR hyd;rintro e W2 (⟨rfl,hJ2,hk2⟩|⟨rfl,hx2⟩)
      ·have hkk:=hk1.trans hk2
       clear hk1 hk2 hJ1 k0 k1 k2 k3 k4 k5 z0 z1 z2 z3 z4 z5 hW1;gi_wp2_with fail
       go_roundw
       case rel=>exact⟨q+1,xs ++ [x0],by omega,by go_num,Hall.out,hJ2,hkk⟩
       case measure=>simp only [intOf];omega
      ·clear hk1 hJ1 k0 k1 k2 k3 k4 k5 z0 z1 z2 z3 z4 z5 hW1
       gi_wp2_with fail
       refine bodyPost_ret (results_none rfl _ _ _) rfl ?_;exact⟨⟨_,rfl⟩,.inr ⟨xs ++ [x0],Hpre.out,hx2⟩⟩
     | false=>
      have Hst:Hid (ex2 (c.p.take (q+1))=ex2 (c.p.take q)):=ex2_no c.p q hlt' (by rw[Hy.out];exact Hb.out);have Hall:Hid (xs.map pr=ex1 c.f ++ ex2 (c.p.take (q+1))):=by show _=_;rw[Hxs1.out,Hst.out]
      clear hie;gi_wp2_with fail
      refine⟨fun f h=>(by cases h),?_⟩;gi_wp2_with fail
      go_roundw
      case rel=>exact⟨q+1,xs,by omega,by go_num,Hall.out,hJ1,hk1⟩
      case measure=>simp only [intOf];omega
    ·have dn2:decide ((q:Int)<(c.p.length:Int))=false:=by simp;omega
     have dm2:decide (q<c.p.length)=false:=by simp;omega
     obtain⟨d0',d1',d2',d3',d4',d5',d6'⟩:=seven_box (hk.2.trans HxW.out);gi_wp2_with fail
     clear d0' d1' d2' d3' d4' d5' d6';obtain⟨Wa,hWa⟩ : ∃ Wa,Wa=wr:=⟨_,rfl⟩;subst hWa;gi_loopw [46] (fun i' wr=>∃ (q:Nat) (xs:List (Al w0)),q<=c.x.length/\i'=.int .i64 q/\xs.map pr=ex1 c.f ++ (ex2 c.p ++ c.x.take q)/\J xs wr/\Kx w0.heap.size wl.heap.size B W wr) (fun i' _=>c.x.length - (intOf i').toNat)
     case atStart=>exact⟨0,xs,by omega,rfl,by rw[Hxs1.out,List.take_of_length_le (by omega)];simp,hJs,hk⟩
     case round=>
      clear hJs hk Hxs1 hBr hwr hwl;obtain⟨q,xs,hq,rfl,hxs,hJs,hk⟩:=hrel;have Hxs1:=hid hxs;have hBr:=HBW.out.trans hk.1.1;have hwr:=hBr.size;have hwl:=Nat.le_trans hWl hk.1.1.size;clear hxs;by_cases hlt':q<c.x.length
      ·have d0:decide ((q:Int)<(c.x.length:Int))=true:=by simp;omega
       obtain⟨g,o,u,ha,-,hu,hie⟩:=XBase.elem_at HLX.out hlt';subst ha;obtain⟨e0,e1,e2,e3,rfl,k0,k1,k2,k3⟩:=hu;obtain⟨me',ea,ec,-,rfl,rfl,rfl,rfl,-,-,-,-⟩:=hie.kinds;have k0:=below_cell k0 hBr;have k1:=below_cell k1 hBr;have k2:=below_cell k2 hBr;have k3:=below_cell k3 hBr;obtain⟨y,hy⟩ : ∃ y,c.x[q]=y:=⟨_,rfl⟩;have Hy:=hid hy;rw[hy] at k0 k1 k2 k3 hie;obtain⟨W1,hW1⟩ : ∃ W1,wr.alloc (.cells #[.int .i64 y.o,.int .i64 y.i,.string y.s,.slice ea y.l.length ec] 44)=W1:=⟨_,rfl⟩;have b1:=alB hW1;have q1:=alG hW1;have hJ1:J xs W1:=by rw[<- hW1];exact hJa _ _ _ hJs
       have hk1:Kx w0.heap.size wl.heap.size B W W1:=hk.trans (Kx.of_below b1 hwr (by omega));obtain⟨z0,z1,z2,z3⟩:=four_box q1;have hcc:=hc3;clear b1 q1 hy hk hJs;obtain⟨x0,hx0⟩ : ∃ x0:Al w0,x0=⟨(.agg #[.int .i64 y.o,.int .i64 y.i,.string y.s,.slice ea y.l.length ec],y),_,hie⟩:=⟨_,rfl⟩;have Hpr:Hid (pr x0=y):=by show _=_;rw[hx0];rfl
       have henc:enc x0 = #[.agg #[.int .i64 y.o,.int .i64 y.i,.string y.s,.slice ea y.l.length ec]]:=by rw[hx0];rfl
       have Hst:Hid (c.x.take (q+1)=c.x.take q ++ [y]):=by show _=_;rw[List.take_add_one,List.getElem?_eq_getElem hlt',Hy.out];rfl
       have Hall:Hid ((xs ++ [x0]).map pr=ex1 c.f ++ (ex2 c.p ++ c.x.take (q+1))):=by show _=_;rw[List.map_append,Hxs1.out,List.map_cons,List.map_nil,Hpr.out,Hst.out];simp
       have Hpre:Hid ((xs ++ [x0]).map pr <+: xsC c):=by
        show _ <+: _;rw[Hall.out,Hxs.out];exact (List.prefix_append_right_inj _).2 ((List.prefix_append_right_inj _).2 (List.take_prefix _ _))
       have hlen2:xs.length<N:=by
        have e1:=Hpre.out.length_le;rw[List.length_map,List.length_append] at e1;have e2:=HN2.out;have e3:(xsC c).length=(ex1 c.f).length+((ex2 c.p).length+c.x.length):=by rw[Hxs.out];simp
        simp only [List.length_cons, List.length_nil] at e1;omega
       obtain⟨fn,tmps,assign,body,hyd,hR⟩:=hY (n - 1) xs x0 W1 hJ1 hlen2;rw[henc] at hyd;clear hx0 henc hie;gi_wp2_with fail
       refine⟨hdd _,?_⟩;refine hR.mono ?_;clear hR hyd;rintro e W2 (⟨rfl,hJ2,hk2⟩|⟨rfl,hx2⟩)
       ·have hkk:=hk1.trans hk2
        clear hk1 hk2 hJ1 k0 k1 k2 k3 z0 z1 z2 z3 hW1;gi_wp2_with fail
        go_roundw
        case rel=>exact⟨q+1,xs ++ [x0],by omega,by go_num,Hall.out,hJ2,hkk⟩
        case measure=>simp only [intOf];omega
       ·clear hk1 hJ1 k0 k1 k2 k3 z0 z1 z2 z3 hW1
        gi_wp2_with fail
        refine bodyPost_ret (results_none rfl _ _ _) rfl ?_;exact⟨⟨_,rfl⟩,.inr ⟨xs ++ [x0],Hpre.out,hx2⟩⟩
      ·have dn3:decide ((q:Int)<(c.x.length:Int))=false:=by simp;omega
       have dm3:decide (q<c.x.length)=false:=by simp;omega
       have Hall:Hid (xs.map pr=xsC c):=by show _=_;rw[Hxs1.out,Hxs.out,List.take_of_length_le (by omega)]
       gi_wp2_with fail
       go_end0
       exact⟨⟨_,rfl⟩,.inl ⟨xs,Hall.out,hJs⟩⟩
end Go.Proofs.YtdolgmmldncfkaaGreatDoor.KEx
namespace Go.Proofs.YtdolgmmldncfkaaGreatDoor.KPi
open Go.RowKit Base EPure
open XBase (four_box frozen_box Rg Four)
def bq:List Ex->Int->Int
 | [],r=>r
 | .mk o i s l :: t,r=>bq t (if r<0 then r else bq l (r - 1))
theorem bq_nil (r:Int):bq [] r=r:=by rw[bq]
theorem bq_no {x:Ex} {r:Int} (h:r<0):bq [x] r=r:=by
 obtain⟨o,i,s,l⟩:=x;rw[bq,if_pos h,bq_nil]
theorem bq_one {o i:Int} {s:ByteArray} {l:List Ex} {r:Int} (h : ¬ r<0):bq [.mk o i s l] r=bq l (r - 1):=by
 rw[bq,if_neg h,bq_nil]
theorem bq_cons (x:Ex) (t:List Ex) (r:Int):bq (x :: t) r=bq t (bq [x] r):=by
 obtain⟨o,i,s,l⟩:=x;rw[bq,bq,bq_nil]
theorem bq_append (a b:List Ex) (r:Int):bq (a ++ b) r=bq b (bq a r):=by
 induction a generalizing r with
 | nil=>rw[List.nil_append,bq_nil]
 | cons x t ih=>rw[List.cons_append,bq_cons,ih,<- bq_cons]
theorem bq_neg (l:List Ex) {r:Int} (h:r<0):bq l r=r:=by
 induction l with
 | nil=>rw[bq_nil]
 | cons x t ih=>rw[bq_cons,bq_no h,ih]
theorem bq_le:∀ (n:Nat) (l:List Ex) (r:Int),SizeOf.sizeOf l<=n->bq l r<=r/\(-1<=r -> -1<=bq l r):=by
 intro n;induction n with
 | zero=>
  intro l r h;cases l with
  | nil=>rw[bq_nil];omega
  | cons x t=>exact absurd h (by simp)
 | succ n ih=>
  intro l r h;cases l with
  | nil=>rw[bq_nil];omega
  | cons x t=>
   obtain⟨o,i,s,k⟩:=x;rw[bq];by_cases hc:r<0
   ·rw[if_pos hc,bq_neg t hc]
    omega
   ·rw[if_neg hc]
    have h1:=ih k (r - 1) (by simp at h;omega);have h2:=ih t (bq k (r - 1)) (by simp at h;omega);omega
theorem bq_bd (l:List Ex) {r:Int} (h : -900000000000000000<=r) : -900000000000000000<=bq l r/\bq l r<=r:=by
 have:=bq_le _ l r (Nat.le_refl _);by_cases hc:r<0
 ·rw[bq_neg l hc];omega
 ·omega
def BI (m:Nat):Prop:=∀ (w:World) (v:Value) (x:Ex) (r:Int),XBase.In false (fun _=>True) w m v x -> -900000000000000000<=r->r<=65536 ->
  Calls prog 140 #[.int .i64 r,v] w fun e w'=>e=.returned (.int .i64 (bq [x] r))/\Below w.heap.size w w'
theorem be_neg {w:World} {o i:Int} {s:ByteArray} {l:List Ex} {a:Option Addr} {cap:Nat} {r:Int} (h0:r<0) :
  Calls prog 140 #[.int .i64 r,.agg #[.int .i64 o,.int .i64 i,.string s,.slice a l.length cap]] w fun e w'=>e=.returned (.int .i64 r)/\Below w.heap.size w w':=by
 have b0:Below w.heap.size w (w.alloc (.cells #[.int .i64 o,.int .i64 i,.string s,.slice a l.length cap] 44)):=(Below.refl _ w).alloc (Nat.le_refl _) _;have e0:decide (r<0)=true:=decide_eq_true h0;clear h0;go_enter func140,ntmps140;go_wp2_with fail
 go_ret
 exact⟨rfl,b0⟩
theorem be_go {w:World} {o i:Int} {s:ByteArray} {l:List Ex} {a:Option Addr} {cap:Nat} {r:Int} (hl:l.length<=140737488351232) (hcap:l.length<=cap/\cap<=9223372036854775807) (h0 : ¬ r<0) (hr5:r<=65536) {m:Nat} (ih:BI m) (hin:XBase.InL false (fun _=>True) w m (.slice a l.length cap) l) :
  Calls prog 140 #[.int .i64 r,.agg #[.int .i64 o,.int .i64 i,.string s,.slice a l.length cap]] w fun e w'=>e=.returned (.int .i64 (bq l (r - 1)))/\Below w.heap.size w w':=by
 obtain⟨W0,hW0⟩ : ∃ W0,w.alloc (.cells #[.int .i64 o,.int .i64 i,.string s,.slice a l.length cap] 44)=W0:=⟨_,rfl⟩;have b0:=alB hW0;have q0:=alG hW0;obtain⟨v0,v1,v2,v3⟩:=four_box q0;have HB0:=hid b0;have e0:decide (r<0)=false:=decide_eq_false h0;have HIN:=hid hin
 have Hih:=hid ih;obtain⟨T,hT⟩ : ∃ T,bq l (r - 1)=T:=⟨_,rfl⟩;rw[hT];have HT:=hid hT;have hr0:0<=r:=by omega
 clear q0 b0 hin hT h0 ih;go_enter func140,ntmps140;go_wp2_with fail
 try rw[hW0]
 clear hW0 v0 v1 v2 v3;go_loopw [15,0] (fun v1 v2 wr=>∃ (q:Nat) (r':Int),v1=.int .i64 q/\v2=.int .i64 r'/\q<=l.length /\ -1<=r'/\r'<=65536/\Below w.heap.size w wr/\bq (l.drop q) r'=T) (fun v1 _ _=>l.length - (intOf v1).toNat)
 case atStart=>exact⟨0,r - 1,rfl,by go_num,by omega,by omega,by omega,HB0.out,HT.out⟩
 case round=>
  clear HB0 HT;obtain⟨q,r',rfl,rfl,hq,hr1,hr2,hB,hM⟩:=hrel;have HM:=hid hM;have HBR:=hid hB;have hsz:=hB.size;clear hM hB;by_cases hlt:q<l.length
  ·have d0:decide ((q:Int)<(l.length:Int))=true:=by simp;omega
   have hinl:=HIN.out.keep (w':=wr) (fun b _ hlt=>HBR.out.block b hlt);obtain⟨aa,cc,hsl,-,-,-,-,hLA⟩:=hinl;cases hsl;obtain⟨g,of,u,ha,hSg,hFour,hInq⟩:=XBase.elem_at hLA hlt;subst ha;obtain⟨c0,c1,c2,c3,rfl,d1,d2,d3,d4⟩:=hFour;obtain⟨m',a2,cp2,-,rfl,rfl,rfl,rfl,hob,hib,hsb,-⟩:=hInq.kinds;obtain⟨y,hy⟩ : ∃ y,l[q]=y:=⟨_,rfl⟩;rw[hy] at hInq d1 d2 d3 d4;obtain⟨W4,hW4⟩ : ∃ W4,wr.alloc (.cells #[.int .i64 y.o,.int .i64 y.i,.string y.s,.slice a2 y.l.length cp2] 44)=W4:=⟨_,rfl⟩;have b4:=alB hW4;have q4:=alG hW4;obtain⟨e0',e1',e2',e3'⟩:=four_box q4;have cM:=Hih.out W4 _ y r' (hInq.below b4) (by omega) hr2;have hstep:=bq_cons y (l.drop (q+1)) r';have hdrop:l.drop q=y :: l.drop (q+1):=by rw[<- hy];exact List.drop_eq_getElem_cons hlt
   have HST:Hid (bq (l.drop (q+1)) (bq [y] r')=T):=by
    show _=_;rw[<- hstep,<- hdrop];exact HM.out
   have hle:=bq_le _ [y] r' (Nat.le_refl _);obtain⟨Z,hZ⟩ : ∃ Z,bq [y] r'=Z:=⟨_,rfl⟩;have HST2:Hid (bq (l.drop (q+1)) Z=T):=by rw[<- hZ];exact HST.out
   rw[hZ] at cM hle;have hcapq:=hcap.1;have hZ1:=hle.2 hr1;have hZ2:=hle.1;clear hstep hdrop HST hZ hInq q4 hLA HM hob hib hsb hle;go_wp2_with fail
   refine cM.mono ?_;rintro e W5 ⟨rfl,B5⟩;have HKK:=hid (nx (nx HBR.out b4) B5);clear cM B5 b4 hW4 d1 d2 d3 d4 e0' e1' e2' e3' HBR;go_wp2_with fail
   go_roundw
   case rel=>exact⟨q+1,Z,by go_num,rfl,by omega,by omega,by omega,HKK.out,HST2.out⟩
   case measure=>simp only [intOf];omega
  ·have d0:decide ((q:Int)<(l.length:Int))=false:=by simp;omega
   have hT:r'=T:=by
    have:=HM.out;rw[List.drop_eq_nil_of_le (by omega),bq_nil] at this;exact this
   subst hT;go_wp2_with fail
   go_ret
   exact⟨rfl,HBR.out⟩
theorem be_all:∀ m,BI m
 | 0=>by
  intro w v x r h;rw[XBase.In] at h;exact h.elim
 | m+1=>by
  intro w v x r h hr1 hr2;obtain⟨o,i,s,l⟩:=x;rw[XBase.in_iff] at h;obtain⟨lv,rfl,ho,hi,hs,hl⟩:=h;have hl0:=hl;obtain⟨a,cap,rfl,h1,h2,h3,-,-⟩:=hl;by_cases h0:r<0
  ·rw[bq_no h0]
   exact be_neg h0
  ·rw[bq_one h0]
   exact be_go (by omega) ⟨h1,h2⟩ h0 hr2 (be_all m) hl0
end Go.Proofs.YtdolgmmldncfkaaGreatDoor.KPi

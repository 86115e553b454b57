import Derived.Deep.RegionWith
import Derived.Test.YtdolgmmldncfkaaGreatDoorPJ03
import Derived.Test.YtdolgmmldncfkaaGreatDoorPJ45
open Go.Proofs.Tryz
set_option linter.unusedVariables false
set_option maxRecDepth 20000
set_option maxHeartbeats 3200000
namespace Go.Proofs.YtdolgmmldncfkaaGreatDoor.KRn
open Go.RowKit KBase
open XBase (Rg)
open Base (nx All heap_alloc_new add_none Keep)
open XLend (flat flat_append El info_parts own_below new_cells)
def Nc (n:Nat) (us:List Value):Prop:=∀ u ∈ us,∃ vs:List Value,u=.agg vs.toArray/\vs.length=n/\∀ x ∈ vs,x.oneCell'=true
def OwnN (w:World) (B:Nat) (ty:TypeId) (n:Nat) (v:Value) (us:List Value):Prop:=w.ownsRow B ty n v us.length (flat us)/\Nc n us
theorem flat_cons (vs:List Value) (us:List Value):flat (.agg vs.toArray :: us)=vs ++ flat us:=by simp [flat, Value.cells]
theorem flat_len {n:Nat} {us:List Value} (h:Nc n us):(flat us).length=us.length*n:=by
 induction us with
 | nil=>simp [flat]
 | cons u us ih=>
  obtain⟨vs,rfl,hl,-⟩:=h u (by simp);rw[flat_cons,List.length_append,ih (fun x hx=>h x (by simp [hx])),hl,List.length_cons,Nat.succ_mul];omega
theorem flat_get {n:Nat} {us:List Value} (h:Nc n us):∀ (j:Nat) (hj:j<us.length) (i:Nat),i<n->(flat us)[j*n+i]? = us[j].cells.toList[i]?:=by
 induction us with
 | nil=>intro j hj;simp at hj
 | cons u us ih=>
  intro j hj i hi;obtain⟨vs,rfl,hl,-⟩:=h u (by simp);have ih:=ih (fun x hx=>h x (by simp [hx]));rw[flat_cons];cases j with
  | zero=>
   rw[List.getElem?_append_left (by omega)];simp [Value.cells]
  | succ j=>
   rw[List.getElem?_append_right (by rw[hl,Nat.succ_mul];omega)];have e2:(j+1)*n+i - vs.length=j*n+i:=by rw[hl,Nat.succ_mul];omega
   rw[e2,ih j (by simpa using hj) i hi];simp
theorem OwnN.cell {w:World} {B g m cap n:Nat} {ty:TypeId} {us:List Value} (h:OwnN w B ty n (.slice (some ⟨g,0,none⟩) m cap) us) (j:Nat) (hj:j<us.length) (i:Nat) (hi:i<n) (u:Value) (hu:us[j].cells.toList[i]? = some u):w.cell? ⟨g,0+(j*n+i),none⟩=some u:=by
 rw[<- add_none];exact World.ownsRow.cells (g:=g) h.1 rfl (j*n+i) u (by rw[flat_get h.2 j hj i hi];exact hu)
theorem OwnN.lt {w:World} {B g m cap n:Nat} {ty:TypeId} {us:List Value} (h:OwnN w B ty n (.slice (some ⟨g,0,none⟩) m cap) us):B<=g/\g<w.heap.size:=World.ownsRow.lt h.1 g rfl
theorem nc_snoc {n:Nat} {us:List Value} {u:Value} (h:Nc n us) (hu:∃ vs:List Value,u=.agg vs.toArray/\vs.length=n/\∀ x ∈ vs,x.oneCell'=true):Nc n (us ++ [u]):=by
 intro x hx;rcases List.mem_append.1 hx with hx|hx
 ·exact h x hx
 ·simp at hx;subst hx;exact hu
theorem OwnN.pt {w:World} {B g m cap:Nat} {ty:TypeId} {us:List Value} (h:OwnN w B ty 6 (.slice (some ⟨g,0,none⟩) m cap) us) (j:Nat) (hj:j<us.length):Pt6 w g (0+j*6) us[j]:=by
 obtain⟨vs,e,hl,-⟩:=h.2 us[j] (List.getElem_mem hj);have hc:=h.cell j hj;rw[e] at hc ⊢;match vs,hl with
 | [v0,v1,v2,v3,v4,v5],_=>exact⟨v0,v1,v2,v3,v4,v5,rfl,hc 0 (by omega) v0 rfl,hc 1 (by omega) v1 rfl,hc 2 (by omega) v2 rfl,hc 3 (by omega) v3 rfl,hc 4 (by omega) v4 rfl,hc 5 (by omega) v5 rfl⟩
theorem OwnN.co {w:World} {B g m cap:Nat} {ty:TypeId} {us:List Value} (h:OwnN w B ty 7 (.slice (some ⟨g,0,none⟩) m cap) us) (j:Nat) (hj:j<us.length):Co7 w g (0+j*7) us[j]:=by
 obtain⟨vs,e,hl,-⟩:=h.2 us[j] (List.getElem_mem hj);have hc:=h.cell j hj;rw[e] at hc ⊢;match vs,hl with
 | [v0,v1,v2,v3,v4,v5,v6],_=>exact⟨v0,v1,v2,v3,v4,v5,v6,rfl,hc 0 (by omega) v0 rfl,hc 1 (by omega) v1 rfl,hc 2 (by omega) v2 rfl,hc 3 (by omega) v3 rfl,hc 4 (by omega) v4 rfl,hc 5 (by omega) v5 rfl,hc 6 (by omega) v6 rfl⟩
theorem OwnN.fd {w:World} {B g m cap:Nat} {ty:TypeId} {us:List Value} (h:OwnN w B ty 8 (.slice (some ⟨g,0,none⟩) m cap) us) (j:Nat) (hj:j<us.length):Fd8 w g (0+j*8) us[j]:=by
 obtain⟨vs,e,hl,-⟩:=h.2 us[j] (List.getElem_mem hj);have hc:=h.cell j hj;rw[e] at hc ⊢;match vs,hl with
 | [v0,v1,v2,v3,v4,v5,v6,v7],_=>exact⟨v0,v1,v2,v3,v4,v5,v6,v7,rfl,hc 0 (by omega) v0 rfl,hc 1 (by omega) v1 rfl,hc 2 (by omega) v2 rfl,hc 3 (by omega) v3 rfl,hc 4 (by omega) v4 rfl,hc 5 (by omega) v5 rfl,hc 6 (by omega) v6 rfl,hc 7 (by omega) v7 rfl⟩
theorem els_step {α:Type} {Pd:(Nat->Prop)->World->Value->α->Prop} (hkeep:∀ {S:Nat->Prop} {w w':World} {u:Value} {c:α},Keep S w w'->Pd S w u c->Pd S w' u c) (hweak:∀ {S S':Nat->Prop} {w:World} {u:Value} {c:α},(∀ b,S b->S' b)->Pd S w u c->Pd S' w u c)
  {w wr w1 w2:World} {q n:Nat} {ty:TypeId} {us:List Value} {l:List α} {out v' u:Value} (hels:∀ j (h:j<us.length) (h':j<l.length),Pd (El w.heap.size wr.heap.size out) wr us[j] l[j])
  (hus:us.length=q) (hq:q<l.length) (hown:OwnN wr w.heap.size ty n out us) (b1:Below wr.heap.size wr w1) (hin1:Pd (Rg wr.heap.size w1.heap.size) w1 u l[q]) (hsz:w.heap.size<=wr.heap.size) (o:Obj)
  (hgrow:(w1.alloc o).grownBy w2 out.ownBlock) (hat:v'.ownBlock=out.ownBlock\/v'.ownBlock=some (w1.heap.size+1)) :
  ∀ j (h:j<(us ++ [u]).length) (h':j<l.length),Pd (El w.heap.size w2.heap.size v') w2 (us ++ [u])[j] l[j]:=by
 have hlt:=World.ownsRow.lt hown.1;have hs1:=b1.size;have hs2:=hgrow.size;rw[World.size_alloc] at hs2;intro j h h';by_cases hj:j<us.length
 ·rw[List.getElem_append_left hj]
  refine hweak ?_ (hkeep (w':=w2) ?_ (hels j hj h'))
  ·intro b hS
   have h3:=hS.2.1;refine⟨hS.1,by omega,?_⟩;rcases hat with h|h
   ·rw[h];exact hS.2.2
   ·rw[h]
    intro e;have:=Option.some.inj e;omega
  ·intro b hS hb
   rw[hgrow.block b (by simp;omega) (fun e=>hS.2.2 e.symm),Below.heap_alloc _ _ _ (by omega),b1.block b hb]
 ·have e:j=us.length:=by simp at h;omega
  subst e;subst hus;simp only [List.getElem_append_right (Nat.le_refl _), Nat.sub_self, List.getElem_cons_zero];refine hweak ?_ (hkeep (w':=w2) ?_ hin1)
  ·intro b hS
   refine⟨by have:=hS.1;omega,by have:=hS.2;omega,?_⟩;rcases hat with h|h
   ·rw[h]
    intro e;have:=(hlt b e).2;have:=hS.1;omega
   ·rw[h]
    intro e;have:=Option.some.inj e;have:=hS.2;omega
  ·intro b hS hb
   rw[hgrow.block b (by simp;omega) (fun e=>by have:=(hlt b e.symm).2;have:=hS.1;omega),Below.heap_alloc _ _ _ (by omega)]
end Go.Proofs.YtdolgmmldncfkaaGreatDoor.KRn
namespace Go.Proofs.YtdolgmmldncfkaaGreatDoor.KCp
open Go.RowKit KBase KRn
open XBase (Rg frozen_box)
open Base (nx All heap_alloc_new add_none Keep six_box)
open XLend (flat flat_append El info_parts own_below new_cells)
theorem heap_setCell_same (w:World) (B j:Nat) (cs:Array Value) (t:TypeId) (v:Value) (h:w.heap[B]? = some (.cells cs t (0,0))):(w.setCell ⟨B,j,none⟩ v).heap[B]? = some (.cells (cs.setIfInBounds j v) t (0,0)):=by
 simp [World.setCell, Array.getElem?_modify, h]
theorem InP.cells {r:Bool} {S:Nat->Prop} {w:World} {u:Value} {c:Pt} (h:InP r S w u c):∃ v0 v1 v2 v3 v4 v5,u=.agg #[v0,v1,v2,v3,v4,v5]:=by
 obtain⟨m,e0,e1,e2,e3,h,-⟩:=h;exact⟨_,_,_,_,_,_,h⟩
theorem InF.cells {r:Bool} {S:Nat->Prop} {w:World} {u:Value} {c:Fld} (h:InF r S w u c):∃ v0 v1 v2 v3 v4 v5 v6 v7,u=.agg #[v0,v1,v2,v3,v4,v5,v6,v7]:=by
 obtain⟨m,e0,e1,e2,e3,h,-⟩:=h;exact⟨_,_,_,_,_,_,_,_,h⟩
theorem p_one {r:Bool} {S:Nat->Prop} {w:World} {u:Value} {c:Pt} (h:InP r S w u c):∃ v0 v1 v2 v3 v4 v5,u=.agg #[v0,v1,v2,v3,v4,v5]/\∀ x ∈ [v0,v1,v2,v3,v4,v5],x.oneCell'=true:=by
 obtain⟨v0,v1,v2,v3,v4,v5,rfl⟩:=InP.cells h;obtain⟨a,c,rfl,rfl,rfl,rfl,rfl,rfl,-,-⟩:=h.six;refine⟨_,_,_,_,_,_,rfl,?_⟩;intro x hx;simp at hx
 rcases hx with rfl|rfl|rfl|rfl|rfl|rfl <;> rfl
theorem f_one {r:Bool} {S:Nat->Prop} {w:World} {u:Value} {c:Fld} (h:InF r S w u c):∃ v0 v1 v2 v3 v4 v5 v6 v7,u=.agg #[v0,v1,v2,v3,v4,v5,v6,v7]/\∀ x ∈ [v0,v1,v2,v3,v4,v5,v6,v7],x.oneCell'=true:=by
 obtain⟨v0,v1,v2,v3,v4,v5,v6,v7,rfl⟩:=InF.cells h;obtain⟨a,c,rfl,rfl,rfl,rfl,rfl,rfl,rfl,rfl,-,-,-,-⟩:=h.eight;refine⟨_,_,_,_,_,_,_,_,rfl,?_⟩;intro x hx;simp at hx
 rcases hx with rfl|rfl|rfl|rfl|rfl|rfl|rfl|rfl <;> rfl
theorem copyPart_c {w:World} {u:Value} {c:Pt} (hin:InP false (fun _=>True) w u c) :
  Calls prog 56 #[u] w fun e w'=>∃ u',e=.returned u'/\InP false (Rg w.heap.size w'.heap.size) w' u' c/\Below w.heap.size w w':=by
 obtain⟨v0,v1,v2,v3,v4,v5,rfl⟩:=InP.cells hin
 obtain⟨ea,ec,rfl,rfl,rfl,rfl,rfl,rfl,-,-⟩:=hin.six;obtain⟨hp,hx⟩ : c.p.size<=140737488351232/\∃ m,XBase.In false (fun _=>True) w m (.agg #[.int .i64 c.e.o,.int .i64 c.e.i,.string c.e.s,.slice ea c.e.l.length ec]) c.e:=⟨hin.kinds.2.2.1,hin.kinds.2.2.2⟩;obtain⟨m,hx⟩:=hx;obtain⟨W1,hW1⟩ : ∃ W1,(w.alloc (.cells #[.string c.p,.bool c.b,.int .i64 c.e.o,.int .i64 c.e.i,.string c.e.s,.slice ea c.e.l.length ec] 65)).alloc (.cells #[.string ⟨#[]⟩,.bool false,.int .i64 0,.int .i64 0,.string ⟨#[]⟩,.slice none 0 0] 65)=W1:=⟨_,rfl⟩;have b1:Below w.heap.size w W1:=by rw[<- hW1];exact ((Below.refl _ w).alloc (Nat.le_refl _) _).alloc (by simp) _
 have hs1:W1.heap.size=w.heap.size+2:=by rw[<- hW1];simp
 have HA1:Hid (W1.heap[w.heap.size]? = some (.cells #[.string c.p,.bool c.b,.int .i64 c.e.o,.int .i64 c.e.i,.string c.e.s,.slice ea c.e.l.length ec] 65 (0,0))):=by rw[<- hW1,Below.heap_alloc _ _ _ (by simp)];exact heap_alloc_new w _
 have HZ1:Hid (W1.heap[w.heap.size+1]? = some (.cells #[.string ⟨#[]⟩,.bool false,.int .i64 0,.int .i64 0,.string ⟨#[]⟩,.slice none 0 0] 65 (0,0))):=by
  have:=heap_alloc_new (w.alloc (.cells #[.string c.p,.bool c.b,.int .i64 c.e.o,.int .i64 c.e.i,.string c.e.s,.slice ea c.e.l.length ec] 65)) (.cells #[.string ⟨#[]⟩,.bool false,.int .i64 0,.int .i64 0,.string ⟨#[]⟩,.slice none 0 0] 65);rw[World.size_alloc,hW1] at this;exact this
 have cX:=XCp.copyAll m _ c.e W1 (hx.below b1);obtain⟨k0,k1,k2,k3,k4,k5⟩:=six_box HA1.out;have HB1:=Base.hid b1;clear hx b1 hin
 go_enter func56,ntmps56;go_wp2_with fail
 try rw[hW1]
 refine cX.mono ?_;rintro e W2 ⟨u,rfl,hu,b2⟩;obtain⟨m',ua0,uc0,-,-⟩ : ∃ (m':Nat) (a:Option Addr) (b:Nat),True/\True:=⟨0,none,0,trivial,trivial⟩;obtain⟨mm,lv,hmm,hu0,-,-,-,hlv⟩:=hu.shape;obtain⟨ua,uc,rfl,-⟩:=hlv;subst hu0;have hs2:=b2.size;have HA2:=Base.hid ((b2.block w.heap.size (by omega)).trans HA1.out);have HZ2:=Base.hid ((b2.block (w.heap.size+1) (by omega)).trans HZ1.out);have HB2:=Base.hid (nx HB1.out b2);have HU:=Base.hid hu;clear cX hu b2 hW1 k0 k1 k2 k3 k4 k5;obtain⟨k0,k1,k2,k3,k4,k5⟩:=six_box HA2.out;have af2:=frozen_box HA2.out 2;have af3:=frozen_box HA2.out 3;have af4:=frozen_box HA2.out 4;have af5:=frozen_box HA2.out 5
 obtain⟨W3,hW3⟩ : ∃ W3,((((W2.setCell ⟨w.heap.size,2,none⟩ (.int .i64 c.e.o)).setCell ⟨w.heap.size,3,none⟩ (.int .i64 c.e.i)).setCell ⟨w.heap.size,4,none⟩ (.string c.e.s)).setCell ⟨w.heap.size,5,none⟩ (.slice ua c.e.l.length uc))=W3:=⟨_,rfl⟩;have HA3:Hid (W3.heap[w.heap.size]? = some (.cells #[.string c.p,.bool c.b,.int .i64 c.e.o,.int .i64 c.e.i,.string c.e.s,.slice ua c.e.l.length uc] 65 (0,0))):=by rw[<- hW3];exact (heap_setCell_same _ _ _ _ _ _ (heap_setCell_same _ _ _ _ _ _ (heap_setCell_same _ _ _ _ _ _ (heap_setCell_same _ _ _ _ _ _ HA2.out))))
 have ho3:∀ b:Nat,b≠w.heap.size->W3.heap[b]? = W2.heap[b]?:=fun b hb=>by rw[<- hW3];iterate 4 rw[Below.heap_setCell _ _ _ _ hb]
 have HZ3:=Base.hid ((ho3 (w.heap.size+1) (by omega)).trans HZ2.out);have hs3:W3.heap.size=W2.heap.size:=by rw[<- hW3];simp [World.setCell]
 have HB3:Hid (Below w.heap.size w W3):=by rw[<- hW3];exact ((((HB2.out.setCell (p:=⟨w.heap.size,2,none⟩) (Nat.le_refl _) _).setCell (p:=⟨w.heap.size,3,none⟩) (Nat.le_refl _) _).setCell (p:=⟨w.heap.size,4,none⟩) (Nat.le_refl _) _).setCell (p:=⟨w.heap.size,5,none⟩) (Nat.le_refl _) _)
 obtain⟨l0,l1,l2,l3,l4,l5⟩:=six_box HA3.out;obtain⟨z0,z1,z2,z3,z4,z5⟩:=six_box HZ3.out;have zf0:=frozen_box HZ3.out 0;have zf1:=frozen_box HZ3.out 1;have zf2:=frozen_box HZ3.out 2;have zf3:=frozen_box HZ3.out 3;have zf4:=frozen_box HZ3.out 4;have zf5:=frozen_box HZ3.out 5
 obtain⟨W4,hW4⟩ : ∃ W4,((((((W3.setCell ⟨w.heap.size+1,0,none⟩ (.string c.p)).setCell ⟨w.heap.size+1,1,none⟩ (.bool c.b)).setCell ⟨w.heap.size+1,2,none⟩ (.int .i64 c.e.o)).setCell ⟨w.heap.size+1,3,none⟩ (.int .i64 c.e.i)).setCell ⟨w.heap.size+1,4,none⟩ (.string c.e.s)).setCell ⟨w.heap.size+1,5,none⟩ (.slice ua c.e.l.length uc))=W4:=⟨_,rfl⟩;have HZ4:Hid (W4.heap[w.heap.size+1]? = some (.cells #[.string c.p,.bool c.b,.int .i64 c.e.o,.int .i64 c.e.i,.string c.e.s,.slice ua c.e.l.length uc] 65 (0,0))):=by rw[<- hW4];exact (heap_setCell_same _ _ _ _ _ _ (heap_setCell_same _ _ _ _ _ _ (heap_setCell_same _ _ _ _ _ _ (heap_setCell_same _ _ _ _ _ _ (heap_setCell_same _ _ _ _ _ _ (heap_setCell_same _ _ _ _ _ _ HZ3.out))))))
 have ho4:∀ b:Nat,b≠w.heap.size+1->W4.heap[b]? = W3.heap[b]?:=fun b hb=>by rw[<- hW4];iterate 6 rw[Below.heap_setCell _ _ _ _ hb]
 have hs4:W4.heap.size=W3.heap.size:=by rw[<- hW4];simp [World.setCell]
 have HB4:Hid (Below w.heap.size w W4):=by rw[<- hW4];exact ((((((HB3.out.setCell (p:=⟨w.heap.size+1,0,none⟩) (show w.heap.size<=w.heap.size+1 by omega) _).setCell (p:=⟨w.heap.size+1,1,none⟩) (show w.heap.size<=w.heap.size+1 by omega) _).setCell (p:=⟨w.heap.size+1,2,none⟩) (show w.heap.size<=w.heap.size+1 by omega) _).setCell (p:=⟨w.heap.size+1,3,none⟩) (show w.heap.size<=w.heap.size+1 by omega) _).setCell (p:=⟨w.heap.size+1,4,none⟩) (show w.heap.size<=w.heap.size+1 by omega) _).setCell (p:=⟨w.heap.size+1,5,none⟩) (show w.heap.size<=w.heap.size+1 by omega) _)
 have HU4:Hid (XBase.In false (Rg w.heap.size W4.heap.size) W4 m (.agg #[.int .i64 c.e.o,.int .i64 c.e.i,.string c.e.s,.slice ua c.e.l.length uc]) c.e):=
  (HU.out.keep (w':=W4) (fun b hS _=>by have:=hS.1;rw[ho4 b (by omega),ho3 b (by omega)])).weak (fun b hS=>⟨by have:=hS.1;omega,by have:=hS.2;omega⟩) false id m (Nat.le_refl _)
 obtain⟨y0,y1,y2,y3,y4,y5⟩:=six_box HZ4.out;clear ho3 ho4;go_wp2_with fail
 try rw[hW4]
 refine bodyPost_ret (v:=.agg #[.string c.p,.bool c.b,.int .i64 c.e.o,.int .i64 c.e.i,.string c.e.s,.slice ua c.e.l.length uc]) (by simp [results, results56, go_sem, y0, y1, y2, y3, y4, y5]) rfl ?_;exact⟨_,rfl,⟨m,_,_,_,_,rfl,hp,HU4.out⟩,HB4.out⟩
theorem copyField_c {w:World} {u:Value} {c:Fld} (hin:InF false (fun _=>True) w u c) :
  Calls prog 55 #[u] w fun e w'=>∃ u',e=.returned u'/\InF false (Rg w.heap.size w'.heap.size) w' u' c/\Below w.heap.size w w':=by
 obtain⟨v0,v1,v2,v3,v4,v5,v6,v7,rfl⟩:=InF.cells hin
 obtain⟨ea,ec,rfl,rfl,rfl,rfl,rfl,rfl,rfl,rfl,-,-,-,-⟩:=hin.eight;obtain⟨hn,hp,ha,hx⟩ : c.n.size<=140737488351232/\c.p.size<=140737488351232/\(-9223372036854775808<=c.a/\c.a<=9223372036854775807)/\∃ m,XBase.In false (fun _=>True) w m (.agg #[.int .i64 c.e.o,.int .i64 c.e.i,.string c.e.s,.slice ea c.e.l.length ec]) c.e:=⟨hin.kinds.2.2.2.2.1,hin.kinds.2.2.2.2.2.1,hin.kinds.2.2.2.2.2.2.1,hin.kinds.2.2.2.2.2.2.2⟩;obtain⟨m,hx⟩:=hx;obtain⟨W1,hW1⟩ : ∃ W1,(w.alloc (.cells #[.string c.n,.string c.p,.bool c.b,.int .i64 c.e.o,.int .i64 c.e.i,.string c.e.s,.slice ea c.e.l.length ec,.int .i64 c.a] 104)).alloc (.cells #[.string ⟨#[]⟩,.string ⟨#[]⟩,.bool false,.int .i64 0,.int .i64 0,.string ⟨#[]⟩,.slice none 0 0,.int .i64 0] 104)=W1:=⟨_,rfl⟩;have b1:Below w.heap.size w W1:=by rw[<- hW1];exact ((Below.refl _ w).alloc (Nat.le_refl _) _).alloc (by simp) _
 have hs1:W1.heap.size=w.heap.size+2:=by rw[<- hW1];simp
 have HA1:Hid (W1.heap[w.heap.size]? = some (.cells #[.string c.n,.string c.p,.bool c.b,.int .i64 c.e.o,.int .i64 c.e.i,.string c.e.s,.slice ea c.e.l.length ec,.int .i64 c.a] 104 (0,0))):=by rw[<- hW1,Below.heap_alloc _ _ _ (by simp)];exact heap_alloc_new w _
 have HZ1:Hid (W1.heap[w.heap.size+1]? = some (.cells #[.string ⟨#[]⟩,.string ⟨#[]⟩,.bool false,.int .i64 0,.int .i64 0,.string ⟨#[]⟩,.slice none 0 0,.int .i64 0] 104 (0,0))):=by
  have:=heap_alloc_new (w.alloc (.cells #[.string c.n,.string c.p,.bool c.b,.int .i64 c.e.o,.int .i64 c.e.i,.string c.e.s,.slice ea c.e.l.length ec,.int .i64 c.a] 104)) (.cells #[.string ⟨#[]⟩,.string ⟨#[]⟩,.bool false,.int .i64 0,.int .i64 0,.string ⟨#[]⟩,.slice none 0 0,.int .i64 0] 104);rw[World.size_alloc,hW1] at this;exact this
 have cX:=XCp.copyAll m _ c.e W1 (hx.below b1);obtain⟨k0,k1,k2,k3,k4,k5,k6,k7⟩:=eight_box HA1.out;have HB1:=Base.hid b1;clear hx b1 hin
 go_enter func55,ntmps55;go_wp2_with fail
 try rw[hW1]
 refine cX.mono ?_;rintro e W2 ⟨u,rfl,hu,b2⟩;obtain⟨m',ua0,uc0,-,-⟩ : ∃ (m':Nat) (a:Option Addr) (b:Nat),True/\True:=⟨0,none,0,trivial,trivial⟩;obtain⟨mm,lv,hmm,hu0,-,-,-,hlv⟩:=hu.shape;obtain⟨ua,uc,rfl,-⟩:=hlv;subst hu0;have hs2:=b2.size;have HA2:=Base.hid ((b2.block w.heap.size (by omega)).trans HA1.out);have HZ2:=Base.hid ((b2.block (w.heap.size+1) (by omega)).trans HZ1.out);have HB2:=Base.hid (nx HB1.out b2);have HU:=Base.hid hu;clear cX hu b2 hW1 k0 k1 k2 k3 k4 k5 k6 k7;obtain⟨k0,k1,k2,k3,k4,k5,k6,k7⟩:=eight_box HA2.out;have af3:=frozen_box HA2.out 3;have af4:=frozen_box HA2.out 4;have af5:=frozen_box HA2.out 5;have af6:=frozen_box HA2.out 6
 obtain⟨W3,hW3⟩ : ∃ W3,((((W2.setCell ⟨w.heap.size,3,none⟩ (.int .i64 c.e.o)).setCell ⟨w.heap.size,4,none⟩ (.int .i64 c.e.i)).setCell ⟨w.heap.size,5,none⟩ (.string c.e.s)).setCell ⟨w.heap.size,6,none⟩ (.slice ua c.e.l.length uc))=W3:=⟨_,rfl⟩;have HA3:Hid (W3.heap[w.heap.size]? = some (.cells #[.string c.n,.string c.p,.bool c.b,.int .i64 c.e.o,.int .i64 c.e.i,.string c.e.s,.slice ua c.e.l.length uc,.int .i64 c.a] 104 (0,0))):=by rw[<- hW3];exact (heap_setCell_same _ _ _ _ _ _ (heap_setCell_same _ _ _ _ _ _ (heap_setCell_same _ _ _ _ _ _ (heap_setCell_same _ _ _ _ _ _ HA2.out))))
 have ho3:∀ b:Nat,b≠w.heap.size->W3.heap[b]? = W2.heap[b]?:=fun b hb=>by rw[<- hW3];iterate 4 rw[Below.heap_setCell _ _ _ _ hb]
 have HZ3:=Base.hid ((ho3 (w.heap.size+1) (by omega)).trans HZ2.out);have hs3:W3.heap.size=W2.heap.size:=by rw[<- hW3];simp [World.setCell]
 have HB3:Hid (Below w.heap.size w W3):=by rw[<- hW3];exact ((((HB2.out.setCell (p:=⟨w.heap.size,3,none⟩) (Nat.le_refl _) _).setCell (p:=⟨w.heap.size,4,none⟩) (Nat.le_refl _) _).setCell (p:=⟨w.heap.size,5,none⟩) (Nat.le_refl _) _).setCell (p:=⟨w.heap.size,6,none⟩) (Nat.le_refl _) _)
 obtain⟨l0,l1,l2,l3,l4,l5,l6,l7⟩:=eight_box HA3.out;obtain⟨z0,z1,z2,z3,z4,z5,z6,z7⟩:=eight_box HZ3.out;have zf0:=frozen_box HZ3.out 0;have zf1:=frozen_box HZ3.out 1;have zf2:=frozen_box HZ3.out 2;have zf3:=frozen_box HZ3.out 3;have zf4:=frozen_box HZ3.out 4;have zf5:=frozen_box HZ3.out 5;have zf6:=frozen_box HZ3.out 6;have zf7:=frozen_box HZ3.out 7
 obtain⟨W4,hW4⟩ : ∃ W4,((((((((W3.setCell ⟨w.heap.size+1,0,none⟩ (.string c.n)).setCell ⟨w.heap.size+1,1,none⟩ (.string c.p)).setCell ⟨w.heap.size+1,2,none⟩ (.bool c.b)).setCell ⟨w.heap.size+1,3,none⟩ (.int .i64 c.e.o)).setCell ⟨w.heap.size+1,4,none⟩ (.int .i64 c.e.i)).setCell ⟨w.heap.size+1,5,none⟩ (.string c.e.s)).setCell ⟨w.heap.size+1,6,none⟩ (.slice ua c.e.l.length uc)).setCell ⟨w.heap.size+1,7,none⟩ (.int .i64 c.a))=W4:=⟨_,rfl⟩;have HZ4:Hid (W4.heap[w.heap.size+1]? = some (.cells #[.string c.n,.string c.p,.bool c.b,.int .i64 c.e.o,.int .i64 c.e.i,.string c.e.s,.slice ua c.e.l.length uc,.int .i64 c.a] 104 (0,0))):=by rw[<- hW4];exact (heap_setCell_same _ _ _ _ _ _ (heap_setCell_same _ _ _ _ _ _ (heap_setCell_same _ _ _ _ _ _ (heap_setCell_same _ _ _ _ _ _ (heap_setCell_same _ _ _ _ _ _ (heap_setCell_same _ _ _ _ _ _ (heap_setCell_same _ _ _ _ _ _ (heap_setCell_same _ _ _ _ _ _ HZ3.out))))))))
 have ho4:∀ b:Nat,b≠w.heap.size+1->W4.heap[b]? = W3.heap[b]?:=fun b hb=>by rw[<- hW4];iterate 8 rw[Below.heap_setCell _ _ _ _ hb]
 have hs4:W4.heap.size=W3.heap.size:=by rw[<- hW4];simp [World.setCell]
 have HB4:Hid (Below w.heap.size w W4):=by rw[<- hW4];exact ((((((((HB3.out.setCell (p:=⟨w.heap.size+1,0,none⟩) (show w.heap.size<=w.heap.size+1 by omega) _).setCell (p:=⟨w.heap.size+1,1,none⟩) (show w.heap.size<=w.heap.size+1 by omega) _).setCell (p:=⟨w.heap.size+1,2,none⟩) (show w.heap.size<=w.heap.size+1 by omega) _).setCell (p:=⟨w.heap.size+1,3,none⟩) (show w.heap.size<=w.heap.size+1 by omega) _).setCell (p:=⟨w.heap.size+1,4,none⟩) (show w.heap.size<=w.heap.size+1 by omega) _).setCell (p:=⟨w.heap.size+1,5,none⟩) (show w.heap.size<=w.heap.size+1 by omega) _).setCell (p:=⟨w.heap.size+1,6,none⟩) (show w.heap.size<=w.heap.size+1 by omega) _).setCell (p:=⟨w.heap.size+1,7,none⟩) (show w.heap.size<=w.heap.size+1 by omega) _)
 have HU4:Hid (XBase.In false (Rg w.heap.size W4.heap.size) W4 m (.agg #[.int .i64 c.e.o,.int .i64 c.e.i,.string c.e.s,.slice ua c.e.l.length uc]) c.e):=
  (HU.out.keep (w':=W4) (fun b hS _=>by have:=hS.1;rw[ho4 b (by omega),ho3 b (by omega)])).weak (fun b hS=>⟨by have:=hS.1;omega,by have:=hS.2;omega⟩) false id m (Nat.le_refl _)
 obtain⟨y0,y1,y2,y3,y4,y5,y6,y7⟩:=eight_box HZ4.out;clear ho3 ho4;go_wp2_with fail
 try rw[hW4]
 refine bodyPost_ret (v:=.agg #[.string c.n,.string c.p,.bool c.b,.int .i64 c.e.o,.int .i64 c.e.i,.string c.e.s,.slice ua c.e.l.length uc,.int .i64 c.a]) (by simp [results, results55, go_sem, y0, y1, y2, y3, y4, y5, y6, y7]) rfl ?_;exact⟨_,rfl,⟨m,_,_,_,_,rfl,hn,hp,HU4.out,ha⟩,HB4.out⟩
theorem infoPart:(prog.info? 65).map (fun i=>(i.zero,i.size,i.bytes))=some (some (.agg #[.string ⟨#[]⟩,.bool false,.int .i64 0,.int .i64 0,.string ⟨#[]⟩,.slice none 0 0]),6,80):=by kernel_rfl
theorem copyParts_c {w:World} {v:Value} {l:List Pt} (hin:RP false (fun _=>True) w v l) :
  Calls prog 37 #[v] w fun e w'=>∃ u,e=.returned u/\Rw 6 80 Pt6 rmP false (Rg w.heap.size w'.heap.size) w' (InP false (Rg w.heap.size w'.heap.size) w') u l/\Below w.heap.size w w':=by
 obtain⟨i0,hi,hz0,hz1,hz2⟩:=info_parts infoPart;obtain⟨a,cap,rfl,hlc,hcm,hlen,hnil,hL⟩:=hin
 go_enter func37,ntmps37;go_wp2_with fail
 go_loopw [3,4] (fun out i wr=>∃ (q:Nat) (us:List Value),q<=l.length/\us.length=q/\i=.int .i64 q/\OwnN wr w.heap.size 65 6 out us /\
   (∀ j (h:j<us.length) (h':j<l.length),InP false (El w.heap.size wr.heap.size out) wr us[j] l[j])/\Below w.heap.size w wr) (fun _ i _=>l.length - (intOf i).toNat)
 case atStart=>exact⟨0,[],by omega,rfl,rfl,⟨World.ownsRow_nil _ _ _ _,fun x hx=>by cases hx⟩,fun j h=>by simp at h,Below.refl _ _⟩
 case round=>
  obtain⟨q,us,hq,hus,rfl,hown,hels,hb⟩:=hrel;have hsz:=hb.size;by_cases hlt:q<l.length
  ·obtain⟨g,o,u,rfl,-,hu,hin⟩:=RwAt.elem hL hlt
   have hin:=InP.keep (Keep.of_below hb) hin
   obtain⟨v0,v1,v2,v3,v4,v5,rfl,d0,d1,d2,d3,d4,d5⟩:=hu;have d0:=Base.below_cell d0 hb;have d1:=Base.below_cell d1 hb;have d2:=Base.below_cell d2 hb;have d3:=Base.below_cell d3 hb;have d4:=Base.below_cell d4 hb;have d5:=Base.below_cell d5 hb
   have c10:=copyPart_c hin
   have HH:=Base.hid hels;have Hus:=Base.hid hus;have Hown:=Base.hid hown;have hrow:=hown.1;have hlen2:us.length=q:=hus;clear hels hin hus hown;go_wp2_with (first
    | (go_at_call 56;refine c10.mono ?_;rintro e w1 ⟨u,rfl,hin1,b1⟩;obtain⟨x0,x1,x2,x3,x4,x5,rfl,hone⟩:=p_one hin1;have hrow1:=World.ownsRow.alloc (own_below hrow b1) (.cells #[x0,x1,x2,x3,x4,x5] 65);have hs1:=b1.size)
    | (at_builtin;refine wpList_append_own_at _ rfl _ _ 39 rfl w.heap.size 65 i0 (.agg #[.string ⟨#[]⟩,.bool false,.int .i64 0,.int .i64 0,.string ⟨#[]⟩,.slice none 0 0]) 6 80 underlying39 hi hz0 hz1 hz2 rfl (by decide) _ _ _ rfl hrow1 ⟨w1.heap.size,0,none⟩ 1 1 [x0,x1,x2,x3,x4,x5] rfl rfl (new_cells _ _ _) (by simpa using hone) (by unfold maxLen;omega) (by omega) (by simp;omega) ?_))
   intro v' w2 hown' hgrow _ hat;have hels2:=els_step (Pd:=InP false) (fun hk h=>InP.keep hk h) (fun hS h=>InP.weak hS false id h) HH.out Hus.out hlt Hown.out b1 hin1 hsz _ hgrow hat;have hb3:=((hb.trans (b1.mono hsz)).alloc (by omega) (.cells #[x0,x1,x2,x3,x4,x5] 65)).grown hgrow (by simp;omega) (fun k hk=>(World.ownsRow.lt hrow k hk).1);have ho2:OwnN w2 w.heap.size 65 6 v' (us ++ [.agg #[x0,x1,x2,x3,x4,x5]]):=by
    refine⟨?_,nc_snoc Hown.out.2 ⟨[x0,x1,x2,x3,x4,x5],rfl,rfl,hone⟩⟩;rw[flat_append,List.length_append,hlen2];exact hown'
   have hlen3:(us ++ [Value.agg #[x0,x1,x2,x3,x4,x5]]).length=q+1:=by simp [hlen2]
   obtain⟨us2,hus2⟩ : ∃ us2,us ++ [Value.agg #[x0,x1,x2,x3,x4,x5]]=us2:=⟨_,rfl⟩;rw[hus2] at hels2 ho2 hlen3;have H2:Hid (∀ j (h:j<us2.length) (h':j<l.length),InP false (El w.heap.size w2.heap.size v') w2 us2[j] l[j]):=fun j h h'=>hels2 j h h'
   clear hown' hgrow hat hrow hrow1 Hown HH Hus hels2 hus2 hin1 hone c10;go_wp2_with fail
   go_roundw
   case rel=>exact⟨q+1,us2,by omega,hlen3,by go_num,ho2,H2.out,hb3⟩
   case measure=>simp only [intOf];omega
  ·obtain rfl:q=l.length:=by omega
   have hnlt:decide ((l.length:Int)<(l.length:Int))=false:=by simp
   have HH:=Base.hid hels;have Hown:=Base.hid hown;have Hus:=Base.hid hus;clear hels hus hown;go_wp2_with fail
   go_ret
   have hus:=Hus.out;have ho2:=Hown.out;rcases ho2.1.2 with ⟨h0,h1⟩|⟨g,cap2,cur,rfl,_,_,hn2,hm2,_⟩
   ·have hl0:l=[]:=List.eq_nil_of_length_eq_zero (by omega)
    subst hl0;exact⟨_,rfl,⟨none,0,h0,by simp,by simp,by simp,fun _=>rfl,.inl ⟨rfl,rfl⟩⟩,hb⟩
   ·refine⟨_,rfl,?_,hb⟩
    try rw[hus]
    refine⟨some ⟨g,0,none⟩,cap2,rfl,by omega,hm2,hlen,(fun h=>by cases h),.inr ⟨g,0,rfl,⟨ho2.lt.1,ho2.lt.2⟩,?_,fun h=>by cases h⟩⟩;intro j hj;exact⟨_,OwnN.pt ho2 j (by omega),(fun {S S':Nat->Prop} {w:World} {u:Value} {c:Pt} (hS:∀ b,S b->S' b) (h:InP false S w u c)=>(InP.weak hS false id h:InP false S' w u c)) (fun b hS=>⟨hS.1,hS.2.1⟩) (HH.out j (by omega) hj)⟩
theorem infoField:(prog.info? 104).map (fun i=>(i.zero,i.size,i.bytes))=some (some (.agg #[.string ⟨#[]⟩,.string ⟨#[]⟩,.bool false,.int .i64 0,.int .i64 0,.string ⟨#[]⟩,.slice none 0 0,.int .i64 0]),8,104):=by kernel_rfl
theorem copyFields_c {w:World} {v:Value} {l:List Fld} (hin:RF false (fun _=>True) w v l) :
  Calls prog 36 #[v] w fun e w'=>∃ u,e=.returned u/\Rw 8 104 Fd8 rmF false (Rg w.heap.size w'.heap.size) w' (InF false (Rg w.heap.size w'.heap.size) w') u l/\Below w.heap.size w w':=by
 obtain⟨i0,hi,hz0,hz1,hz2⟩:=info_parts infoField;obtain⟨a,cap,rfl,hlc,hcm,hlen,hnil,hL⟩:=hin
 go_enter func36,ntmps36;go_wp2_with fail
 go_loopw [3,4] (fun out i wr=>∃ (q:Nat) (us:List Value),q<=l.length/\us.length=q/\i=.int .i64 q/\OwnN wr w.heap.size 104 8 out us /\
   (∀ j (h:j<us.length) (h':j<l.length),InF false (El w.heap.size wr.heap.size out) wr us[j] l[j])/\Below w.heap.size w wr) (fun _ i _=>l.length - (intOf i).toNat)
 case atStart=>exact⟨0,[],by omega,rfl,rfl,⟨World.ownsRow_nil _ _ _ _,fun x hx=>by cases hx⟩,fun j h=>by simp at h,Below.refl _ _⟩
 case round=>
  obtain⟨q,us,hq,hus,rfl,hown,hels,hb⟩:=hrel;have hsz:=hb.size;by_cases hlt:q<l.length
  ·obtain⟨g,o,u,rfl,-,hu,hin⟩:=RwAt.elem hL hlt
   have hin:=InF.keep (Keep.of_below hb) hin
   obtain⟨v0,v1,v2,v3,v4,v5,v6,v7,rfl,d0,d1,d2,d3,d4,d5,d6,d7⟩:=hu;have d0:=Base.below_cell d0 hb;have d1:=Base.below_cell d1 hb;have d2:=Base.below_cell d2 hb;have d3:=Base.below_cell d3 hb;have d4:=Base.below_cell d4 hb;have d5:=Base.below_cell d5 hb;have d6:=Base.below_cell d6 hb;have d7:=Base.below_cell d7 hb
   have c10:=copyField_c hin
   have HH:=Base.hid hels;have Hus:=Base.hid hus;have Hown:=Base.hid hown;have hrow:=hown.1;have hlen2:us.length=q:=hus;clear hels hin hus hown;go_wp2_with (first
    | (go_at_call 55;refine c10.mono ?_;rintro e w1 ⟨u,rfl,hin1,b1⟩;obtain⟨x0,x1,x2,x3,x4,x5,x6,x7,rfl,hone⟩:=f_one hin1;have hrow1:=World.ownsRow.alloc (own_below hrow b1) (.cells #[x0,x1,x2,x3,x4,x5,x6,x7] 104);have hs1:=b1.size)
    | (at_builtin;refine wpList_append_own_at _ rfl _ _ 38 rfl w.heap.size 104 i0 (.agg #[.string ⟨#[]⟩,.string ⟨#[]⟩,.bool false,.int .i64 0,.int .i64 0,.string ⟨#[]⟩,.slice none 0 0,.int .i64 0]) 8 104 underlying38 hi hz0 hz1 hz2 rfl (by decide) _ _ _ rfl hrow1 ⟨w1.heap.size,0,none⟩ 1 1 [x0,x1,x2,x3,x4,x5,x6,x7] rfl rfl (new_cells _ _ _) (by simpa using hone) (by unfold maxLen;omega) (by omega) (by simp;omega) ?_))
   intro v' w2 hown' hgrow _ hat;have hels2:=els_step (Pd:=InF false) (fun hk h=>InF.keep hk h) (fun hS h=>InF.weak hS false id h) HH.out Hus.out hlt Hown.out b1 hin1 hsz _ hgrow hat;have hb3:=((hb.trans (b1.mono hsz)).alloc (by omega) (.cells #[x0,x1,x2,x3,x4,x5,x6,x7] 104)).grown hgrow (by simp;omega) (fun k hk=>(World.ownsRow.lt hrow k hk).1);have ho2:OwnN w2 w.heap.size 104 8 v' (us ++ [.agg #[x0,x1,x2,x3,x4,x5,x6,x7]]):=by
    refine⟨?_,nc_snoc Hown.out.2 ⟨[x0,x1,x2,x3,x4,x5,x6,x7],rfl,rfl,hone⟩⟩;rw[flat_append,List.length_append,hlen2];exact hown'
   have hlen3:(us ++ [Value.agg #[x0,x1,x2,x3,x4,x5,x6,x7]]).length=q+1:=by simp [hlen2]
   obtain⟨us2,hus2⟩ : ∃ us2,us ++ [Value.agg #[x0,x1,x2,x3,x4,x5,x6,x7]]=us2:=⟨_,rfl⟩;rw[hus2] at hels2 ho2 hlen3;have H2:Hid (∀ j (h:j<us2.length) (h':j<l.length),InF false (El w.heap.size w2.heap.size v') w2 us2[j] l[j]):=fun j h h'=>hels2 j h h'
   clear hown' hgrow hat hrow hrow1 Hown HH Hus hels2 hus2 hin1 hone c10;go_wp2_with fail
   go_roundw
   case rel=>exact⟨q+1,us2,by omega,hlen3,by go_num,ho2,H2.out,hb3⟩
   case measure=>simp only [intOf];omega
  ·obtain rfl:q=l.length:=by omega
   have hnlt:decide ((l.length:Int)<(l.length:Int))=false:=by simp
   have HH:=Base.hid hels;have Hown:=Base.hid hown;have Hus:=Base.hid hus;clear hels hus hown;go_wp2_with fail
   go_ret
   have hus:=Hus.out;have ho2:=Hown.out;rcases ho2.1.2 with ⟨h0,h1⟩|⟨g,cap2,cur,rfl,_,_,hn2,hm2,_⟩
   ·have hl0:l=[]:=List.eq_nil_of_length_eq_zero (by omega)
    subst hl0;exact⟨_,rfl,⟨none,0,h0,by simp,by simp,by simp,fun _=>rfl,.inl ⟨rfl,rfl⟩⟩,hb⟩
   ·refine⟨_,rfl,?_,hb⟩
    try rw[hus]
    refine⟨some ⟨g,0,none⟩,cap2,rfl,by omega,hm2,hlen,(fun h=>by cases h),.inr ⟨g,0,rfl,⟨ho2.lt.1,ho2.lt.2⟩,?_,fun h=>by cases h⟩⟩;intro j hj;exact⟨_,OwnN.fd ho2 j (by omega),(fun {S S':Nat->Prop} {w:World} {u:Value} {c:Fld} (hS:∀ b,S b->S' b) (h:InF false S w u c)=>(InF.weak hS false id h:InF false S' w u c)) (fun b hS=>⟨hS.1,hS.2.1⟩) (HH.out j (by omega) hj)⟩
end Go.Proofs.YtdolgmmldncfkaaGreatDoor.KCp

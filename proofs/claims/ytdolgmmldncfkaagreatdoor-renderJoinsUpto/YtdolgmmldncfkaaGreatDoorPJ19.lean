import Derived.Deep.RegionWith
import Derived.Laws.Externs
import Derived.Laws.OwnMore
import Derived.Lib.AppendStr
import Derived.Lib.Builder
import Derived.Lib.UnsafeStr
import Derived.Maps.AppendAt
import Derived.Test.YtdolgmmldncfkaaGreatDoorChecked
import Derived.WalkKit
import Derived.Test.YtdolgmmldncfkaaGreatDoorPJ02
import Derived.Test.YtdolgmmldncfkaaGreatDoorPJ03
import Derived.Test.YtdolgmmldncfkaaGreatDoorPJ18
open Go.Proofs.Tryz
set_option linter.unusedVariables false
set_option maxRecDepth 20000
set_option maxHeartbeats 6400000
namespace Go.Proofs.YtdolgmmldncfkaaGreatDoor.TBase
open Go.RowKit
theorem infoA:(prog.info? 89).map (fun i=>(i.zero,i.size,i.bytes))=some (some (.agg #[.string ⟨#[]⟩,.string ⟨#[]⟩]),2,32):=by kernel_rfl
theorem infoT:(prog.info? 47).map (fun i=>(i.zero,i.size,i.bytes))=some (some (.agg #[.string ⟨#[]⟩,.string ⟨#[]⟩,.slice none 0 0,.slice none 0 0]),4,80):=by kernel_rfl
def flatA (L:List (ByteArray × ByteArray)):List Value:=L.flatMap fun t=>[.string t.1,.string t.2]
def OwnA (w:World) (B:Nat) (v:Value) (L:List (ByteArray × ByteArray)):Prop:=w.ownsRow B 89 2 v L.length (flatA L)
theorem flatA_append (a b:List (ByteArray × ByteArray)):flatA (a ++ b)=flatA a ++ flatA b:=by simp [flatA]
theorem flatA_len (L:List (ByteArray × ByteArray)):(flatA L).length=L.length*2:=by
 induction L with
 | nil=>rfl
 | cons t L ih=>
  simp only [flatA, List.flatMap_cons, List.length_append, List.length_cons] at ih ⊢;rw[ih];simp
  omega
theorem flatA_get (L:List (ByteArray × ByteArray)):∀ (j:Nat) (hj:j<L.length),(flatA L)[j*2]? = some (.string L[j].1)/\(flatA L)[j*2+1]? = some (.string L[j].2):=by
 induction L with
 | nil=>intro j hj;simp at hj
 | cons t L ih=>
  intro j hj;have e:flatA (t :: L)=[.string t.1,.string t.2] ++ flatA L:=by simp [flatA]
  rw[e];cases j with
  | zero=>simp
  | succ j=>
   rw[List.getElem?_append_right (by simp;omega),List.getElem?_append_right (by simp;omega)];have e2:(j+1)*2 - [Value.string t.1,.string t.2].length=j*2:=by simp;omega
   have e3:(j+1)*2+1 - [Value.string t.1,.string t.2].length=j*2+1:=by simp;omega
   rw[e2,e3];exact ih j (by simpa using hj)
theorem one_attrs (L:List (ByteArray × ByteArray)):∀ u ∈ flatA L,u.oneCell'=true:=by
 intro u hu;obtain⟨t,_,h⟩:=List.mem_flatMap.1 hu;simp at h
 rcases h with rfl|rfl <;> rfl
theorem ownA_cell {w:World} {B g n cap:Nat} {L:List (ByteArray × ByteArray)} (h:OwnA w B (.slice (some ⟨g,0,none⟩) n cap) L) (j:Nat) (hj:j<L.length):Two w g (0+j*2) L[j]:=by
 have h1:=World.ownsRow.cells (g:=g) h rfl (j*2) _ (flatA_get L j hj).1;have h2:=World.ownsRow.cells (g:=g) h rfl (j*2+1) _ (flatA_get L j hj).2;rw[add_none] at h1 h2;exact⟨h1,h2⟩
theorem ownA_lt {w:World} {B g n cap:Nat} {L:List (ByteArray × ByteArray)} (h:OwnA w B (.slice (some ⟨g,0,none⟩) n cap) L):B<=g/\g<w.heap.size:=World.ownsRow.lt h g rfl
def flat (us:List Value):List Value:=us.flatMap fun u=>u.cells.toList
def Fours (us:List Value):Prop:=∀ u ∈ us,∃ v0 v1 v2 v3,u=.agg #[v0,v1,v2,v3]/\∀ x ∈ [v0,v1,v2,v3],x.oneCell'=true
def OwnV (w:World) (B:Nat) (v:Value) (us:List Value):Prop:=w.ownsRow B 47 4 v us.length (flat us)/\Fours us
theorem flat_append (a b:List Value):flat (a ++ b)=flat a ++ flat b:=by simp [flat]
theorem flat_len {us:List Value} (h:Fours us):(flat us).length=us.length*4:=by
 induction us with
 | nil=>rfl
 | cons u us ih=>
  obtain⟨v0,v1,v2,v3,rfl,-⟩:=h u (by simp);have:=ih (fun x hx=>h x (by simp [hx]));simp only [flat, List.flatMap_cons, List.length_append] at this ⊢;simp only [Value.cells, List.length_cons] at this ⊢;simp [this]
  omega
theorem flat_get {us:List Value} (h:Fours us):∀ (j:Nat) (hj:j<us.length) (i:Nat),i<4->(flat us)[j*4+i]? = us[j].cells.toList[i]?:=by
 induction us with
 | nil=>intro j hj;simp at hj
 | cons u us ih=>
  intro j hj i hi;obtain⟨v0,v1,v2,v3,rfl,-⟩:=h u (by simp);have ih:=ih (fun x hx=>h x (by simp [hx]));have e:flat (.agg #[v0,v1,v2,v3] :: us)=[v0,v1,v2,v3] ++ flat us:=by simp [flat, Value.cells]
  rw[e];cases j with
  | zero=>
   rw[List.getElem?_append_left (by simp;omega)];simp [Value.cells]
  | succ j=>
   rw[List.getElem?_append_right (by simp;omega)];have e2:(j+1)*4+i - [v0,v1,v2,v3].length=j*4+i:=by simp;omega
   rw[e2,ih j (by simpa using hj) i hi];simp
theorem ownV_four {w:World} {B g n cap:Nat} {us:List Value} (h:OwnV w B (.slice (some ⟨g,0,none⟩) n cap) us) (j:Nat) (hj:j<us.length):Four w g (0+j*4) us[j]:=by
 obtain⟨v0,v1,v2,v3,e,-⟩:=h.2 us[j] (List.getElem_mem hj);have hc:∀ i u,i<4->us[j].cells.toList[i]? = some u->w.cell? ⟨g,0+(j*4+i),none⟩=some u:=by
  intro i u hi hu;rw[<- add_none];exact World.ownsRow.cells (g:=g) h.1 rfl (j*4+i) u (by rw[flat_get h.2 j hj i hi];exact hu)
 rw[e] at hc ⊢;refine⟨v0,v1,v2,v3,rfl,?_,?_,?_,?_⟩
 ·exact hc 0 v0 (by omega) rfl
 ·exact hc 1 v1 (by omega) rfl
 ·exact hc 2 v2 (by omega) rfl
 ·exact hc 3 v3 (by omega) rfl
theorem ownV_lt {w:World} {B g n cap:Nat} {L:List Value} (h:OwnV w B (.slice (some ⟨g,0,none⟩) n cap) L):B<=g/\g<w.heap.size:=World.ownsRow.lt h.1 g rfl
theorem new_cells (w:World) (cs:List Value) (t:TypeId):∀ j u,cs[j]? = some u->(w.alloc (.cells cs.toArray t)).cell? ((⟨w.heap.size,0,none⟩ : Addr).add j)=some u:=by
 intro j u hu;rw[add_none,Nat.zero_add];have h:=heap_alloc_new w (.cells cs.toArray t);have e:(w.alloc (.cells cs.toArray t)).cell? ⟨w.heap.size,j,none⟩=cs.toArray[j]?:=by
  unfold World.cell?;rw[h];rfl
 rw[e];simpa using hu
theorem block_set {w:World} {B j:Nat} {cs:Array Value} {t:TypeId} {fz:Nat × Nat} (h:w.heap[B]? = some (.cells cs t fz)) (u:Value):(w.setCell ⟨B,j,none⟩ u).heap[B]? = some (.cells (cs.setIfInBounds j u) t fz):=by
 simp [World.setCell, Array.getElem?_modify, h]
theorem frozen_box {w:World} {B:Nat} {cs:Array Value} {t:TypeId} (h:w.heap[B]? = some (.cells cs t (0,0))) (j:Nat):w.frozen? ⟨B,j,none⟩=false:=by
 simp [World.frozen?, h]
theorem set4 {W W':World} {B:Nat} {t:TypeId} {y0 y1 y2 y3:Value} (x0 x1 x2 x3:Value) (h:W.heap[B]? = some (.cells #[y0,y1,y2,y3] t (0,0))) (hW:((((W.setCell ⟨B,0,none⟩ x0).setCell ⟨B,1,none⟩ x1).setCell ⟨B,2,none⟩ x2).setCell ⟨B,3,none⟩ x3)=W') :
  W'.heap[B]? = some (.cells #[x0,x1,x2,x3] t (0,0))/\(∀ b,b≠B->W'.heap[b]? = W.heap[b]?)/\W'.heap.size=W.heap.size/\∀ w n,n<=B->Below n w W->Below n w W':=by
 subst hW;refine⟨?_,fun b hb=>?_,by simp [World.setCell],fun w n hn hb=>?_⟩
 ·rw[block_set (block_set (block_set (block_set h _) _) _) _]
  rfl
 ·rw[Below.heap_setCell _ _ _ _ hb,Below.heap_setCell _ _ _ _ hb,Below.heap_setCell _ _ _ _ hb,Below.heap_setCell _ _ _ _ hb]
 ·exact (((hb.setCell (p:=⟨B,0,none⟩) hn x0).setCell (p:=⟨B,1,none⟩) hn x1).setCell (p:=⟨B,2,none⟩) hn x2).setCell (p:=⟨B,3,none⟩) hn x3
theorem own_below {w w':World} {B:Nat} {e:TypeId} {s n:Nat} {v:Value} {xs:List Value} (h:w.ownsRow B e s v n xs) (hb:Below w.heap.size w w'):w'.ownsRow B e s v n xs:=by
 refine⟨h.1,?_⟩;rcases h.2 with h2|⟨g,cap,cur,hv,hg,hh,r⟩
 ·exact .inl h2
 ·exact .inr ⟨g,cap,cur,hv,hg,(hb.block g (Array.getElem?_eq_some_iff.1 hh).1).trans hh,r⟩
def El (lo hi:Nat) (v:Value):Nat->Prop:=fun b=>lo<=b/\b<hi/\v.ownBlock≠some b
theorem fours_snoc {us:List Value} {u:Value} (h:Fours us) (hu:∃ v0 v1 v2 v3,u=.agg #[v0,v1,v2,v3]/\∀ x ∈ [v0,v1,v2,v3],x.oneCell'=true):Fours (us ++ [u]):=by
 intro x hx;rcases List.mem_append.1 hx with hx|hx
 ·exact h x hx
 ·simp at hx;subst hx;exact hu
theorem els_keep {r:Bool} {w wr w1 w2:World} {m:Nat} {us:List Value} {l:List T} {out v':Value} (hels:∀ j (h:j<us.length) (h':j<l.length),In r (El w.heap.size wr.heap.size out) wr m us[j] l[j])
  (b1:Below wr.heap.size wr w1) (o:Obj) (hgrow:(w1.alloc o).grownBy w2 out.ownBlock) (hat:v'.ownBlock=out.ownBlock\/v'.ownBlock=some (w1.heap.size+1)) :
  ∀ j (h:j<us.length) (h':j<l.length),In r (El w.heap.size w2.heap.size v') w2 m us[j] l[j]:=by
 have hs1:=b1.size;have hs2:=hgrow.size;rw[World.size_alloc] at hs2;intro j hj h';refine ((hels j hj h').keep (w':=w2) ?_).weak ?_ r id m (Nat.le_refl _)
 ·intro b hS hb
  rw[hgrow.block b (by simp;omega) (fun e=>hS.2.2 e.symm),Below.heap_alloc _ _ _ (by omega),b1.block b hb]
 ·intro b hS
  have h3:=hS.2.1;refine⟨hS.1,by omega,?_⟩;rcases hat with h|h
  ·rw[h];exact hS.2.2
  ·rw[h]
   intro e;have:=Option.some.inj e;omega
theorem els_step {r:Bool} {w wr w1 w2:World} {m q:Nat} {us:List Value} {l:List T} {out v' u:Value} (hels:∀ j (h:j<us.length) (h':j<l.length),In r (El w.heap.size wr.heap.size out) wr m us[j] l[j])
  (hus:us.length=q) (hq:q<l.length) (hown:OwnV wr w.heap.size out us) (b1:Below wr.heap.size wr w1) (hin1:In r (Rg wr.heap.size w1.heap.size) w1 m u l[q]) (hsz:w.heap.size<=wr.heap.size) (o:Obj)
  (hgrow:(w1.alloc o).grownBy w2 out.ownBlock) (hat:v'.ownBlock=out.ownBlock\/v'.ownBlock=some (w1.heap.size+1)) :
  ∀ j (h:j<(us ++ [u]).length) (h':j<l.length),In r (El w.heap.size w2.heap.size v') w2 m (us ++ [u])[j] l[j]:=by
 have hk:=els_keep hels b1 o hgrow hat;have hlt:=World.ownsRow.lt hown.1;have hs1:=b1.size;have hs2:=hgrow.size;rw[World.size_alloc] at hs2;intro j h h';by_cases hj:j<us.length
 ·rw[List.getElem_append_left hj]
  exact hk j hj h'
 ·have e:j=us.length:=by simp at h;omega
  subst e;subst hus;rw[List.getElem_append_right (by omega)];simp only [Nat.sub_self, List.getElem_cons_zero];have hne:∀ b,wr.heap.size<=b->out.ownBlock≠some b:=fun b hb e=>by have:=(hlt b e).2;omega
  refine (hin1.keep (w':=w2) ?_).weak ?_ r id m (Nat.le_refl _)
  ·intro b hS hb
   rw[hgrow.block b (by simp;omega) (fun e=>hne b hS.1 e.symm),Below.heap_alloc _ _ _ hb]
  ·intro b hS
   have h2:=hS.2;have h1:=hS.1;refine⟨by omega,by omega,?_⟩;rcases hat with h|h
   ·rw[h];exact hne b hS.1
   ·rw[h]
    intro e;have:=Option.some.inj e;omega
end Go.Proofs.YtdolgmmldncfkaaGreatDoor.TBase
namespace Go.Proofs.YtdolgmmldncfkaaGreatDoor.XLend
open Go.RowKit EPure XBase
open Base (nx All heap_alloc_new add_none Keep)
theorem info_parts {t:TypeId} {z:Value} {s b:Nat} (h:(prog.info? t).map (fun i=>(i.zero,i.size,i.bytes))=some (some z,s,b)):∃ i,prog.info? t=some i/\i.zero=some z/\i.size=s/\i.bytes=b:=by
 cases hi:prog.info? t with
 | none=>rw[hi] at h;cases h
 | some i=>
  rw[hi] at h;simp only [Option.map_some, Option.some.injEq, Prod.mk.injEq] at h;exact⟨i,rfl,h.1,h.2.1,h.2.2⟩
theorem infoX:(prog.info? 44).map (fun i=>(i.zero,i.size,i.bytes))=some (some (.agg #[.int .i64 0,.int .i64 0,.string ⟨#[]⟩,.slice none 0 0]),4,56):=by kernel_rfl
theorem In.four {r:Bool} {S:Nat->Prop} {w:World} {m:Nat} {v:Value} {c:Ex} (h:In r S w m v c) :
  ∃ v0 v1 v2 v3,v=.agg #[v0,v1,v2,v3]/\∀ u ∈ [v0,v1,v2,v3],u.oneCell'=true:=by
 obtain⟨m',lv,rfl,rfl,-,-,-,⟨a,cap,rfl,-⟩⟩:=h.shape;refine⟨_,_,_,_,rfl,?_⟩;intro u hu;simp at hu
 rcases hu with rfl|rfl|rfl|rfl <;> rfl
def flat (us:List Value):List Value:=us.flatMap fun u=>u.cells.toList
def Fours (us:List Value):Prop:=∀ u ∈ us,∃ v0 v1 v2 v3,u=.agg #[v0,v1,v2,v3]/\∀ x ∈ [v0,v1,v2,v3],x.oneCell'=true
def OwnV (w:World) (B:Nat) (v:Value) (us:List Value):Prop:=w.ownsRow B 44 4 v us.length (flat us)/\Fours us
theorem flat_append (a b:List Value):flat (a ++ b)=flat a ++ flat b:=by simp [flat]
theorem flat_get {us:List Value} (h:Fours us):∀ (j:Nat) (hj:j<us.length) (i:Nat),i<4->(flat us)[j*4+i]? = us[j].cells.toList[i]?:=by
 induction us with
 | nil=>intro j hj;simp at hj
 | cons u us ih=>
  intro j hj i hi;obtain⟨v0,v1,v2,v3,rfl,-⟩:=h u (by simp);have ih:=ih (fun x hx=>h x (by simp [hx]));have e:flat (.agg #[v0,v1,v2,v3] :: us)=[v0,v1,v2,v3] ++ flat us:=by simp [flat, Value.cells]
  rw[e];cases j with
  | zero=>
   rw[List.getElem?_append_left (by simp;omega)];simp [Value.cells]
  | succ j=>
   rw[List.getElem?_append_right (by simp;omega)];have e2:(j+1)*4+i - [v0,v1,v2,v3].length=j*4+i:=by simp;omega
   rw[e2,ih j (by simpa using hj) i hi];simp
theorem ownV_four {w:World} {B g n cap:Nat} {us:List Value} (h:OwnV w B (.slice (some ⟨g,0,none⟩) n cap) us) (j:Nat) (hj:j<us.length):Four w g (0+j*4) us[j]:=by
 obtain⟨v0,v1,v2,v3,e,-⟩:=h.2 us[j] (List.getElem_mem hj);have hc:∀ i u,i<4->us[j].cells.toList[i]? = some u->w.cell? ⟨g,0+(j*4+i),none⟩=some u:=by
  intro i u hi hu;rw[<- add_none];exact World.ownsRow.cells (g:=g) h.1 rfl (j*4+i) u (by rw[flat_get h.2 j hj i hi];exact hu)
 rw[e] at hc ⊢;refine⟨v0,v1,v2,v3,rfl,?_,?_,?_,?_⟩
 ·exact hc 0 v0 (by omega) rfl
 ·exact hc 1 v1 (by omega) rfl
 ·exact hc 2 v2 (by omega) rfl
 ·exact hc 3 v3 (by omega) rfl
theorem ownV_lt {w:World} {B g n cap:Nat} {L:List Value} (h:OwnV w B (.slice (some ⟨g,0,none⟩) n cap) L):B<=g/\g<w.heap.size:=World.ownsRow.lt h.1 g rfl
theorem new_cells (w:World) (cs:List Value) (t:TypeId):∀ j u,cs[j]? = some u->(w.alloc (.cells cs.toArray t)).cell? ((⟨w.heap.size,0,none⟩ : Addr).add j)=some u:=by
 intro j u hu;rw[add_none,Nat.zero_add];have h:=heap_alloc_new w (.cells cs.toArray t);have e:(w.alloc (.cells cs.toArray t)).cell? ⟨w.heap.size,j,none⟩=cs.toArray[j]?:=by
  unfold World.cell?;rw[h];rfl
 rw[e];simpa using hu
theorem block_set {w:World} {B j:Nat} {cs:Array Value} {t:TypeId} {fz:Nat × Nat} (h:w.heap[B]? = some (.cells cs t fz)) (u:Value):(w.setCell ⟨B,j,none⟩ u).heap[B]? = some (.cells (cs.setIfInBounds j u) t fz):=by
 simp [World.setCell, Array.getElem?_modify, h]
theorem set4 {W W':World} {B:Nat} {t:TypeId} {y0 y1 y2 y3:Value} (x0 x1 x2 x3:Value) (h:W.heap[B]? = some (.cells #[y0,y1,y2,y3] t (0,0))) (hW:((((W.setCell ⟨B,0,none⟩ x0).setCell ⟨B,1,none⟩ x1).setCell ⟨B,2,none⟩ x2).setCell ⟨B,3,none⟩ x3)=W') :
  W'.heap[B]? = some (.cells #[x0,x1,x2,x3] t (0,0))/\(∀ b,b≠B->W'.heap[b]? = W.heap[b]?)/\W'.heap.size=W.heap.size/\∀ w n,n<=B->Below n w W->Below n w W':=by
 subst hW;refine⟨?_,fun b hb=>?_,by simp [World.setCell],fun w n hn hb=>?_⟩
 ·rw[block_set (block_set (block_set (block_set h _) _) _) _]
  rfl
 ·rw[Below.heap_setCell _ _ _ _ hb,Below.heap_setCell _ _ _ _ hb,Below.heap_setCell _ _ _ _ hb,Below.heap_setCell _ _ _ _ hb]
 ·exact (((hb.setCell (p:=⟨B,0,none⟩) hn x0).setCell (p:=⟨B,1,none⟩) hn x1).setCell (p:=⟨B,2,none⟩) hn x2).setCell (p:=⟨B,3,none⟩) hn x3
theorem own_below {w w':World} {B:Nat} {e:TypeId} {s n:Nat} {v:Value} {xs:List Value} (h:w.ownsRow B e s v n xs) (hb:Below w.heap.size w w'):w'.ownsRow B e s v n xs:=by
 refine⟨h.1,?_⟩;rcases h.2 with h2|⟨g,cap,cur,hv,hg,hh,r⟩
 ·exact .inl h2
 ·exact .inr ⟨g,cap,cur,hv,hg,(hb.block g (Array.getElem?_eq_some_iff.1 hh).1).trans hh,r⟩
def El (lo hi:Nat) (v:Value):Nat->Prop:=fun b=>lo<=b/\b<hi/\v.ownBlock≠some b
theorem fours_snoc {us:List Value} {u:Value} (h:Fours us) (hu:∃ v0 v1 v2 v3,u=.agg #[v0,v1,v2,v3]/\∀ x ∈ [v0,v1,v2,v3],x.oneCell'=true):Fours (us ++ [u]):=by
 intro x hx;rcases List.mem_append.1 hx with hx|hx
 ·exact h x hx
 ·simp at hx;subst hx;exact hu
theorem els_keep {r:Bool} {w wr w1 w2:World} {m:Nat} {us:List Value} {l:List Ex} {out v':Value} (hels:∀ j (h:j<us.length) (h':j<l.length),In r (El w.heap.size wr.heap.size out) wr m us[j] l[j])
  (b1:Below wr.heap.size wr w1) (o:Obj) (hgrow:(w1.alloc o).grownBy w2 out.ownBlock) (hat:v'.ownBlock=out.ownBlock\/v'.ownBlock=some (w1.heap.size+1)) :
  ∀ j (h:j<us.length) (h':j<l.length),In r (El w.heap.size w2.heap.size v') w2 m us[j] l[j]:=by
 have hs1:=b1.size;have hs2:=hgrow.size;rw[World.size_alloc] at hs2;intro j hj h';refine ((hels j hj h').keep (w':=w2) ?_).weak ?_ r id m (Nat.le_refl _)
 ·intro b hS hb
  rw[hgrow.block b (by simp;omega) (fun e=>hS.2.2 e.symm),Below.heap_alloc _ _ _ (by omega),b1.block b hb]
 ·intro b hS
  have h3:=hS.2.1;refine⟨hS.1,by omega,?_⟩;rcases hat with h|h
  ·rw[h];exact hS.2.2
  ·rw[h]
   intro e;have:=Option.some.inj e;omega
theorem els_step {r:Bool} {w wr w1 w2:World} {m q:Nat} {us:List Value} {l:List Ex} {out v' u:Value} (hels:∀ j (h:j<us.length) (h':j<l.length),In r (El w.heap.size wr.heap.size out) wr m us[j] l[j])
  (hus:us.length=q) (hq:q<l.length) (hown:OwnV wr w.heap.size out us) (b1:Below wr.heap.size wr w1) (hin1:In r (Rg wr.heap.size w1.heap.size) w1 m u l[q]) (hsz:w.heap.size<=wr.heap.size) (o:Obj)
  (hgrow:(w1.alloc o).grownBy w2 out.ownBlock) (hat:v'.ownBlock=out.ownBlock\/v'.ownBlock=some (w1.heap.size+1)) :
  ∀ j (h:j<(us ++ [u]).length) (h':j<l.length),In r (El w.heap.size w2.heap.size v') w2 m (us ++ [u])[j] l[j]:=by
 have hk:=els_keep hels b1 o hgrow hat;have hlt:=World.ownsRow.lt hown.1;have hs1:=b1.size;have hs2:=hgrow.size;rw[World.size_alloc] at hs2;intro j h h';by_cases hj:j<us.length
 ·rw[List.getElem_append_left hj]
  exact hk j hj h'
 ·have e:j=us.length:=by simp at h;omega
  subst e;subst hus;rw[List.getElem_append_right (by omega)];simp only [Nat.sub_self, List.getElem_cons_zero];have hne:∀ b,wr.heap.size<=b->out.ownBlock≠some b:=fun b hb e=>by have:=(hlt b e).2;omega
  refine (hin1.keep (w':=w2) ?_).weak ?_ r id m (Nat.le_refl _)
  ·intro b hS hb
   rw[hgrow.block b (by simp;omega) (fun e=>hne b hS.1 e.symm),Below.heap_alloc _ _ _ hb]
  ·intro b hS
   have h2:=hS.2;have h1:=hS.1;refine⟨by omega,by omega,?_⟩;rcases hat with h|h
   ·rw[h];exact hne b hS.1
   ·rw[h]
    intro e;have:=Option.some.inj e;omega
end Go.Proofs.YtdolgmmldncfkaaGreatDoor.XLend
namespace Go.Proofs.YtdolgmmldncfkaaGreatDoor.GAs
open Go.RowKit Base EPure JPure VSm VJn JVa GPl GVa GEn GAt
open VPure hiding evL
open KBase (Fld RF InF Fd8)
open TBase (OwnA flatA flatA_append infoA)
def ats (L:List C):List Fld->Except Nat (List (ByteArray × ByteArray))
 | []=>.ok []
 | f :: t=>bnd (atr L f.p f.b f.e) fun a=>bnd (ats L t) fun r=>.ok (if a.2=true then (f.n,a.1) :: r else r)
def app {α:Type} (A:List α) (x:Except Nat (List α)):Except Nat (List α):=bnd x fun r=>.ok (A ++ r)
theorem app_nil {α:Type} (x:Except Nat (List α)):app [] x=x:=by cases x <;> rfl
structure Bs (K m:Nat) (w:World) (B:Nat) (Pv mk sv:Value) (r:Int) (L:List C):Prop where
 box:w.heap[B]? = some (.cells (wk Pv mk sv r) 82 (0,0))
 low:K<=w.heap.size
 wfs:∀ (j:Int) c,rh L j=some c->wf c
 tb:Tb w
 sk:Sk K (m+1) w Pv L
theorem Bs.below {K m:Nat} {w w':World} {B:Nat} {Pv mk sv:Value} {r:Int} {L:List C} (h:Bs K m w B Pv mk sv r L) (hb:Below w.heap.size w w'):Bs K m w' B Pv mk sv r L:=
 ⟨(hb.block B (Array.getElem?_eq_some_iff.1 h.box).1).trans h.box,Nat.le_trans h.low hb.size,h.wfs,h.tb.below hb,h.sk.below hb⟩
theorem Bs.rk {K m n:Nat} {w:World} {B:Nat} {Pv mk sv:Value} {r:Int} {L:List C} (h:Bs K m w B Pv mk sv r L) {v:Value} {x:Ex} (hx:XBase.In false (fun b=>b<K) w n v x) (hg:gd x) (ho:ops okOp x):Rk K m n w Pv L v x:=
 ⟨hx,h.low,h.wfs,hg,ho,h.tb,h.sk⟩
theorem ats_yes {L:List C} {f:Fld} {t:List Fld} {A:List (ByteArray × ByteArray)} {a:ByteArray} (h:atr L f.p f.b f.e=.ok (a,true)):app A (ats L (f :: t))=app (A ++ [(f.n,a)]) (ats L t):=by
 rw[ats,h];cases ats L t with
 | error q=>rfl
 | ok r=>show Except.ok (A ++ (f.n,a) :: r)=Except.ok (A ++ [(f.n,a)] ++ r);simp
theorem ats_not {L:List C} {f:Fld} {t:List Fld} {A:List (ByteArray × ByteArray)} {a:ByteArray} (h:atr L f.p f.b f.e=.ok (a,false)):app A (ats L (f :: t))=app A (ats L t):=by
 rw[ats,h];cases ats L t with
 | error q=>rfl
 | ok r=>rfl
theorem ats_bad {L:List C} {f:Fld} {t:List Fld} {A:List (ByteArray × ByteArray)} {q:Nat} (h:atr L f.p f.b f.e=.error q):app A (ats L (f :: t))=.error q:=by
 rw[ats,h];rfl
def AR (w:World) (a:Except Nat (List (ByteArray × ByteArray))) (e:Ending) (w':World):Prop:=Below w.heap.size w w'/\match a with
 | .ok A=>∃ v,e=.returned v/\OwnA w' w.heap.size v A
 | .error n=>e=.panicked (pkE n)
theorem attrs_c {K m:Nat} {w:World} {B:Nat} {Pv mk sv:Value} {r:Int} {L:List C} (h:Bs K m w B Pv mk sv r L) {fv:Value} {fs:List Fld} (hf:RF false (fun b=>b<K) w fv fs) (hg:∀ j (h:j<fs.length),fs[j].b=true->gd fs[j].e/\ops okOp fs[j].e) (hn:fs.length<=4096) :
  Calls prog 76 #[ptr B,fv] w fun e w'=>AR w (ats L fs) e w':=by
 obtain⟨ia,hia,ha0,ha1,ha2⟩:=XLend.info_parts infoA;have HB:=hid h;have HF:=hid hf;have HG:=hid hg;obtain⟨T,hT⟩ : ∃ T,ats L fs=T:=⟨_,rfl⟩;rw[hT];have HT:Hid (app [] (ats L (fs.drop 0))=T):=by show _=_;rw[app_nil,List.drop_zero];exact hT
 obtain⟨a,cap,rfl,hlc,hcm,hlen,-,-⟩:=hf;clear h hg hT;go_enter func76,ntmps76;go_wp2_with fail
 go_loopw [5,12] (fun out i wr=>∃ (q:Nat) (A:List (ByteArray × ByteArray)),i=.int .i64 q/\q<=fs.length/\A.length<=q/\app A (ats L (fs.drop q))=T/\OwnA wr w.heap.size out A/\Below w.heap.size w wr) (fun _ i _=>fs.length - (intOf i).toNat)
 case atStart=>exact⟨0,[],rfl,by omega,by simp,HT.out,World.ownsRow_nil _ _ _ _,Below.refl _ _⟩
 case round=>
  clear HT;obtain⟨q,A,rfl,hq,hA,hM,hown,hb⟩:=hrel;have HO:=hid hown;have HBr:=hid hb;have hsz:=hb.size;by_cases hlt:q<fs.length
  ·have d0:decide ((q:Int)<(fs.length:Int))=true:=by simp;omega
   have i0:(0:Int)<=(q:Int):=by omega
   have i1:(q:Int)<(fs.length:Int):=by omega
   obtain⟨aa,cc,hsl,-,-,-,-,hLA⟩:=HF.out;cases hsl;obtain⟨g,o,u,rfl,-,hu,hi⟩:=hLA.elem hlt;obtain⟨v0,v1,v2,e0,e1,e2,e3,v7,rfl,c0,c1,c2,c3,c4,c5,c6,c7⟩:=hu;obtain⟨mm,hxi⟩:=hi.kinds.2.2.2.2.2.2.2;obtain⟨ea,ec,rfl,rfl,rfl,rfl,rfl,rfl,rfl,rfl,-,-,-,-⟩:=hi.eight;have c0:=below_cell c0 hb;have c1:=below_cell c1 hb;have c2:=below_cell c2 hb;have c3:=below_cell c3 hb;have c4:=below_cell c4 hb;have c5:=below_cell c5 hb;have c6:=below_cell c6 hb;have c7:=below_cell c7 hb;have hgq:=HG.out q hlt;rw[List.drop_eq_getElem_cons hlt] at hM;obtain⟨f,hff⟩ : ∃ f,fs[q]=f:=⟨_,rfl⟩;rw[hff] at c0 c1 c2 c3 c4 c5 c6 c7 hM hgq hxi;obtain⟨W1,hW1⟩ : ∃ W1,wr.alloc (.cells #[.string f.n,.string f.p,.bool f.b,.int .i64 f.e.o,.int .i64 f.e.i,.string f.e.s,.slice ea f.e.l.length ec,.int .i64 f.a] 104)=W1:=⟨_,rfl⟩;have b1:=alB hW1;have hs1:W1.heap.size=wr.heap.size+1:=by rw[<- hW1];simp
   have hx1:=alG hW1;have HX1:=hid hx1;have hB1:=HB.out.below (nx hb b1);have cA:=attr_c (n:=mm) (fn:=f.n) (fp:=f.p) (fb:=f.b) (fa:=f.a) (xa:=ea) (xc:=ec) (x:=f.e) hB1.box hB1.sk (fun hbt=>hB1.rk (hxi.below (nx hb b1)) (hgq hbt).1 (hgq hbt).2);obtain⟨z0,z1,z2,z3,z4,z5,z6,z7⟩:=eight_b hx1;obtain⟨U,hU⟩ : ∃ U,atr L f.p f.b f.e=U:=⟨_,rfl⟩;rw[hU] at cA;have HU:=hid hU;have HM:=hid hM;have HB1:=hid (nx hb b1);have HO1:=hid (TBase.own_below hown b1);have HW1:=hid hW1;clear hLA hi hxi hff hgq hM hU hb hown b1 hx1 hB1 hW1;go_wp2_with fail
   try rw[HW1.out]
   refine cA.mono ?_;intro ee W2 hA2;cases U with
   | error z=>
    obtain⟨rfl,b2⟩:=hA2;have hT:=HM.out;rw[ats_bad HU.out] at hT;subst hT;exact⟨rfl,nx HB1.out b2,rfl⟩
   | ok y=>
    obtain⟨rfl,b2⟩:=hA2;obtain⟨t,ok⟩:=y;have HB2:=hid (nx HB1.out b2);have hs2:=b2.size;have HO2:=hid (TBase.own_below HO1.out b2);obtain⟨y0,-⟩:=eight_b ((b2.block wr.heap.size (by omega)).trans HX1.out);clear b2 cA z0 z1 z2 z3 z4 z5 z6 z7;cases ok with
    | false=>
     have HM2:Hid (app A (ats L (fs.drop (q+1)))=T):=by show _=_;rw[<- HM.out,ats_not HU.out]
     go_wp2_with fail
     go_roundw
     case rel=>exact⟨q+1,A,by go_num,by omega,by omega,HM2.out,HO2.out,HB2.out⟩
     case measure=>simp only [intOf];omega
    | true=>
     have HM2:Hid (app (A ++ [(f.n,t)]) (ats L (fs.drop (q+1)))=T):=by show _=_;rw[<- HM.out,ats_yes HU.out]
     have hrow:=World.ownsRow.alloc HO2.out (.cells #[.string f.n,.string t] 89);have hsw:=HB2.out.size;have hAl:A.length<=4096:=by omega
     go_wp2_with (first
      | (at_builtin;refine wpList_append_own_at _ rfl _ _ 45 rfl w.heap.size 89 ia (.agg #[.string ⟨#[]⟩,.string ⟨#[]⟩]) 2 32 underlying45 hia ha0 ha1 ha2 rfl (by decide) _ _ _ rfl hrow ⟨W2.heap.size,0,none⟩ 1 1 [.string f.n,.string t] rfl rfl (TBase.new_cells W2 _ 89) (by simp [Value.oneCell']) (by unfold maxLen;omega) (by omega) (by simp;omega) ?_))
     intro v' W4 hown' hgrow _ hat;have HO4:Hid (OwnA W4 w.heap.size v' (A ++ [(f.n,t)])):=by
      show World.ownsRow _ _ _ _ _ _ _;rw[List.length_append,flatA_append];exact hown'
     have HB4:Hid (Below w.heap.size w W4):=(HB2.out.alloc HB2.out.size _).grown hgrow (by simp;omega) (fun k hk=>(World.ownsRow.lt HO2.out k hk).1);have hAl2:(A ++ [(f.n,t)]).length<=q+1:=by simp;omega
     clear hown' hgrow hat hrow;go_wp2_with fail
     go_roundw
     case rel=>exact⟨q+1,A ++ [(f.n,t)],by go_num,by omega,hAl2,HM2.out,HO4.out,HB4.out⟩
     case measure=>simp only [intOf];omega
  ·have d0:decide ((q:Int)<(fs.length:Int))=false:=by simp;omega
   have hT:T=.ok A:=by
    rw[<- hM,List.drop_eq_nil_of_le (by omega)];show Except.ok (A ++ [])=_;rw[List.append_nil]
   subst hT;clear hM hb hown;go_wp2_with fail
   go_ret
   exact⟨HBr.out,_,rfl,HO.out⟩
end Go.Proofs.YtdolgmmldncfkaaGreatDoor.GAs
namespace Go.Proofs.YtdolgmmldncfkaaGreatDoor.HBuild
open Go.RowKit
theorem info5:(prog.info? 5).map (fun i=>(i.zero,i.size,i.bytes))=some (some (.int .u8 0),1,1):=by kernel_rfl
theorem info36:(prog.info? 155).map (fun i=>i.size)=some 2:=by kernel_rfl
theorem lies36:liesAt prog prog.depth 155 (2 / prog.cellsOf 155) 0 155 1=true:=by kernel_rfl
theorem check_used (b:Nat) (w:World) (h0:w.cell? ⟨b,0,none⟩=some (.pointer (some ⟨b,0,none⟩))) :
  Calls prog 149 #[.pointer (some ⟨b,0,none⟩)] w fun e w'=>e=.returned (.tuple #[])/\w'=w:=by
 obtain⟨j,hj,_⟩:=Option.map_eq_some_iff.1 info36;have hq:=Lib.run_neq_ptr_same (P:=prog) w ⟨b,0,none⟩ underlying152 hj;go_enter func149,ntmps149;go_wp2
 go_end0
 exact⟨rfl,rfl⟩
theorem check_fresh (b:Nat) (w:World) (h0:w.cell? ⟨b,0,none⟩=some (.pointer none)) (hsh:w.shape? b=some (155,2)) (hfz:w.frozen? ⟨b,0,none⟩=false) :
  Calls prog 149 #[.pointer (some ⟨b,0,none⟩)] w fun e w'=>e=.returned (.tuple #[])/\w'=w.setCell ⟨b,0,none⟩ (.pointer (some ⟨b,0,none⟩)):=by
 obtain⟨j,hj,hjs⟩:=Option.map_eq_some_iff.1 info36;have hto:=Lib.run_to_unsafe (P:=prog) w ⟨b,0,none⟩ underlying152 underlying210 hj (by rw[hjs];decide) hsh (Nat.zero_lt_succ 1);have hfrom:=Lib.run_from_unsafe (P:=prog) w ⟨b,0,none⟩ underlying210 underlying152 hj hsh lies36;have hesc:(callFunc 162 #[.pointer (some ⟨b,0,none⟩)]).run prog w=.ok (.value (.pointer (some ⟨b,0,none⟩))) w:=by
  rw[run_callFunc_extern func162 (by kernel_rfl) (by kernel_rfl) (by kernel_rfl) (e:=Extern.AbiNoEscape.same) (by kernel_rfl),Lib.run_noEscape];rfl
 have hq:=Lib.run_neq_ptr_same (P:=prog) (w.setCell ⟨b,0,none⟩ (.pointer (some ⟨b,0,none⟩))) ⟨b,0,none⟩ underlying152 hj;go_enter func149,ntmps149;go_wp2
 go_end0
 exact⟨rfl,rfl⟩
theorem check_c (B b:Nat) (bs:List Value) (w:World) (h:Lib.IsBuilder 155 5 B b bs w) :
  Calls prog 149 #[.pointer (some ⟨b,0,none⟩)] w fun e w'=>e=.returned (.tuple #[])/\Lib.BuilderAt 155 5 B b (.pointer (some ⟨b,0,none⟩)) bs w'/\Below B w w':=by
 rcases h with h|h
 ·refine (check_fresh b w h.cell0 h.shape h.frozen0).mono ?_
  rintro e w' ⟨rfl,rfl⟩;exact⟨rfl,h.used _,(Below.refl B w).setCell (p:=⟨b,0,none⟩) h.1 _⟩
 ·refine (check_used b w h.cell0).mono ?_
  rintro e w' ⟨rfl,rfl⟩;exact⟨rfl,h,Below.refl B _⟩
theorem at_open {B b:Nat} {bs:List Value} {w:World} (h:Lib.BuilderAt 155 5 B b (.pointer (some ⟨b,0,none⟩)) bs w) :
  ∃ v,w.cell? ⟨b,1,none⟩=some v/\w.ownsRow B 5 1 v bs.length bs/\b<w.heap.size/\B<=b/\v.ownBlock≠some b/\w.heap[b]? = some (.cells #[.pointer (some ⟨b,0,none⟩),v] 155 (0,0)):=by
 have hl:=h.lt;obtain⟨hB,v,hb,hown,hne⟩:=h;exact⟨v,by rw[Lib.cell_of_heap hb];rfl,hown,hl,hB,hne,hb⟩
theorem text_c (B b:Nat) (bs:List Value) (x:ByteArray) (w:World) (h:Lib.IsBuilder 155 5 B b bs w) (hlen:bs.length+x.size<=140737488355328) (hBw:B<=w.heap.size) :
  Calls prog 113 #[.pointer (some ⟨b,0,none⟩),.string x] w fun e w'=>e=.returned (.tuple #[.int .i64 x.size,.nilIface])/\Lib.IsBuilder 155 5 B b (bs ++ Lib.strCells x) w'/\Below B w w':=by
 obtain⟨i0,hi,hz0,hz1,hz2⟩:=info_parts info5;go_enter func113,ntmps113;go_wp2_with (first
  | (go_at_call 149;refine (check_c B b bs _ h).mono ?_))
 rintro e w1 ⟨rfl,h1,hb1⟩;obtain⟨v,c1,hown,hlt,hB,hne,hbk⟩:=at_open h1;have hs1:=hb1.size;clear h1 h;go_wp2_with (first
  | (at_builtin;refine Lib.wpList_append_own_string _ rfl _ _ 153 9 rfl B 5 i0 underlying153 underlying9 hi hz0 hz1 hz2 _ _ _ rfl hown x rfl (by unfold maxLen;omega) (by omega) (by omega) ?_))
 intro v' w2 hown' hgrow _;have hb2:w2.heap[b]? = some (.cells #[.pointer (some ⟨b,0,none⟩),v] 155 (0,0)):=by
  rw[hgrow.block b (by omega) (fun e=>hne e.symm)];exact hbk
 have d1:w2.cell? ⟨b,1,none⟩=some v:=by rw[Lib.cell_of_heap hb2];rfl
 have f1:=Lib.frozen_of_heap hb2 1;have hnew:Lib.BuilderAt 155 5 B b (.pointer (some ⟨b,0,none⟩)) (bs ++ Lib.strCells x) (w2.setCell ⟨b,1,none⟩ v'):=Lib.BuilderAt.put hB hb2 (by simpa [Lib.strCells_length] using hown') (by decide);have hbel:=(hb1.grown hgrow (by omega) (fun k hk=>(World.ownsRow.lt hown k hk).1)).setCell (p:=⟨b,1,none⟩) hB v';obtain⟨ao,n',cap,rfl⟩ : ∃ ao n' cap,v'=.slice ao n' cap:=by
  rcases hown'.2 with ⟨hv,_⟩|⟨g,cap,cur,hv,_⟩
  ·exact⟨_,_,_,hv⟩
  ·exact⟨_,_,_,hv⟩
 clear hown' hgrow hown hb2 hbk hne;go_wp2
 go_ret2
 exact⟨rfl,Or.inr hnew,hbel⟩
end Go.Proofs.YtdolgmmldncfkaaGreatDoor.HBuild

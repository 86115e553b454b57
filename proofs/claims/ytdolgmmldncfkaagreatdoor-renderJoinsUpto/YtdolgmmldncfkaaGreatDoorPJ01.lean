import Derived.Below
import Derived.Carry
import Derived.ChangeOld
import Derived.Deep.DeepHandedRow
import Derived.Deep.Strs
import Derived.Lib.LaidTab
import Derived.Lib.SliceRun
import Derived.LoopN
import Derived.LoopTactic
import Derived.Maps.AppendAt
import Derived.OpenShut
import Derived.ProofKit
import Derived.SizedLaws
import Derived.Stop.LaidErr
import Derived.Test.YtdolgmmldncfkaaGreatDoorRows
import Derived.WalkKit
import Derived.Test.YtdolgmmldncfkaaGreatDoorPJ00
open Go.Proofs.Tryz
set_option linter.unusedVariables false
set_option maxRecDepth 1000000
namespace Go.Proofs.YtdolgmmldncfkaaGreatDoor.Base
open Go.RowKit
theorem info9:(prog.info? 9).map (fun i=>(i.zero,i.size,i.bytes))=some (some (.string ⟨#[]⟩),1,16):=by kernel_rfl
theorem info25:(prog.info? 26).map (fun i=>(i.zero,i.size,i.bytes))=some (some (.agg #[.int .i64 0,.bool false,.int .i64 0,.string ⟨#[]⟩,.slice none 0 0,.slice none 0 0]),6,88):=by kernel_rfl
def OwnT (w:World) (B:Nat) (v:Value) (L:List ByteArray):Prop:=w.ownsRow B 9 1 v L.length (L.map Value.string)
theorem one_texts (L:List ByteArray):∀ u ∈ L.map Value.string,u.oneCell'=true:=by
 intro u hu;obtain⟨_,_,rfl⟩:=List.mem_map.1 hu;rfl
def flat (us:List Value):List Value:=us.flatMap fun u=>u.cells.toList
def Sixes (us:List Value):Prop:=∀ u ∈ us,∃ v0 v1 v2 v3 v4 v5,u=.agg #[v0,v1,v2,v3,v4,v5]/\∀ x ∈ [v0,v1,v2,v3,v4,v5],x.oneCell'=true
def OwnV (w:World) (B:Nat) (v:Value) (us:List Value):Prop:=w.ownsRow B 26 6 v us.length (flat us)/\Sixes us
theorem flat_append (a b:List Value):flat (a ++ b)=flat a ++ flat b:=by simp [flat]
theorem flat_len {us:List Value} (h:Sixes us):(flat us).length=us.length*6:=by
 induction us with
 | nil=>rfl
 | cons u us ih=>
  obtain⟨v0,v1,v2,v3,v4,v5,rfl,-⟩:=h u (by simp);have:=ih (fun x hx=>h x (by simp [hx]));simp only [flat, List.flatMap_cons, List.length_append] at this ⊢;simp only [Value.cells, List.length_cons] at this ⊢;simp [this]
  omega
theorem flat_get {us:List Value} (h:Sixes us):∀ (j:Nat) (hj:j<us.length) (i:Nat),i<6->(flat us)[j*6+i]? = us[j].cells.toList[i]?:=by
 induction us with
 | nil=>intro j hj;simp at hj
 | cons u us ih=>
  intro j hj i hi;obtain⟨v0,v1,v2,v3,v4,v5,rfl,-⟩:=h u (by simp);have ih:=ih (fun x hx=>h x (by simp [hx]));have e:flat (.agg #[v0,v1,v2,v3,v4,v5] :: us)=[v0,v1,v2,v3,v4,v5] ++ flat us:=by simp [flat, Value.cells]
  rw[e];cases j with
  | zero=>
   rw[List.getElem?_append_left (by simp;omega)];simp [Value.cells]
  | succ j=>
   rw[List.getElem?_append_right (by simp;omega)];have e2:(j+1)*6+i - [v0,v1,v2,v3,v4,v5].length=j*6+i:=by simp;omega
   rw[e2,ih j (by simpa using hj) i hi];simp
theorem ownV_six {w:World} {B g n cap:Nat} {us:List Value} (h:OwnV w B (.slice (some ⟨g,0,none⟩) n cap) us) (j:Nat) (hj:j<us.length):Six w g (0+j*6) us[j]:=by
 obtain⟨v0,v1,v2,v3,v4,v5,e,-⟩:=h.2 us[j] (List.getElem_mem hj);have hc:∀ i u,i<6->us[j].cells.toList[i]? = some u->w.cell? ⟨g,0+(j*6+i),none⟩=some u:=by
  intro i u hi hu;rw[<- add_none];exact World.ownsRow.cells (g:=g) h.1 rfl (j*6+i) u (by rw[flat_get h.2 j hj i hi];exact hu)
 rw[e] at hc ⊢;refine⟨v0,v1,v2,v3,v4,v5,rfl,?_,?_,?_,?_,?_,?_⟩
 ·exact hc 0 v0 (by omega) rfl
 ·exact hc 1 v1 (by omega) rfl
 ·exact hc 2 v2 (by omega) rfl
 ·exact hc 3 v3 (by omega) rfl
 ·exact hc 4 v4 (by omega) rfl
 ·exact hc 5 v5 (by omega) rfl
theorem new_cells (w:World) (cs:List Value) (t:TypeId):∀ j u,cs[j]? = some u->(w.alloc (.cells cs.toArray t)).cell? ((⟨w.heap.size,0,none⟩ : Addr).add j)=some u:=by
 intro j u hu;rw[add_none,Nat.zero_add];have h:=heap_alloc_new w (.cells cs.toArray t);have e:(w.alloc (.cells cs.toArray t)).cell? ⟨w.heap.size,j,none⟩=cs.toArray[j]?:=by
  unfold World.cell?;rw[h];rfl
 rw[e];simpa using hu
theorem block_set {w:World} {B j:Nat} {cs:Array Value} {t:TypeId} {fz:Nat × Nat} (h:w.heap[B]? = some (.cells cs t fz)) (u:Value):(w.setCell ⟨B,j,none⟩ u).heap[B]? = some (.cells (cs.setIfInBounds j u) t fz):=by
 simp [World.setCell, Array.getElem?_modify, h]
theorem frozen_box {w:World} {B:Nat} {cs:Array Value} {t:TypeId} (h:w.heap[B]? = some (.cells cs t (0,0))) (j:Nat):w.frozen? ⟨B,j,none⟩=false:=by
 simp [World.frozen?, h]
theorem In.kinds {r:Bool} {S:Nat->Prop} {w:World} {m:Nat} {x0 x1 x2 x3 x4 x5:Value} {c:C} (h:In r S w m (.agg #[x0,x1,x2,x3,x4,x5]) c) :
  ∃ a1 n1 c1 a2 n2 c2,x0=.int .i64 c.k/\x1=.bool c.b/\x2=.int .i64 c.i/\x3=.string c.s/\x4=.slice a1 n1 c1/\x5=.slice a2 n2 c2:=by
 obtain⟨m',nv,lv,-,e,-,-,-,⟨a1,c1,rfl,-⟩,⟨a2,c2,rfl,-⟩⟩:=h.shape;simp only [Value.agg.injEq, Array.mk.injEq, List.cons.injEq, and_true] at e;exact⟨_,_,_,_,_,_,e⟩
theorem set6 {W W':World} {B:Nat} {t:TypeId} {y0 y1 y2 y3 y4 y5:Value} (x0 x1 x2 x3 x4 x5:Value) (h:W.heap[B]? = some (.cells #[y0,y1,y2,y3,y4,y5] t (0,0))) (hW:((((((W.setCell ⟨B,0,none⟩ x0).setCell ⟨B,1,none⟩ x1).setCell ⟨B,2,none⟩ x2).setCell ⟨B,3,none⟩ x3).setCell ⟨B,4,none⟩ x4).setCell ⟨B,5,none⟩ x5)=W') :
  W'.heap[B]? = some (.cells #[x0,x1,x2,x3,x4,x5] t (0,0))/\(∀ b,b≠B->W'.heap[b]? = W.heap[b]?)/\W'.heap.size=W.heap.size/\∀ w n,n<=B->Below n w W->Below n w W':=by
 subst hW;refine⟨?_,fun b hb=>?_,by simp [World.setCell],fun w n hn hb=>?_⟩
 ·rw[block_set (block_set (block_set (block_set (block_set (block_set h _) _) _) _) _) _]
  rfl
 ·rw[Below.heap_setCell _ _ _ _ hb,Below.heap_setCell _ _ _ _ hb,Below.heap_setCell _ _ _ _ hb,Below.heap_setCell _ _ _ _ hb,Below.heap_setCell _ _ _ _ hb,Below.heap_setCell _ _ _ _ hb]
 ·exact (((((hb.setCell (p:=⟨B,0,none⟩) hn x0).setCell (p:=⟨B,1,none⟩) hn x1).setCell (p:=⟨B,2,none⟩) hn x2).setCell (p:=⟨B,3,none⟩) hn x3).setCell (p:=⟨B,4,none⟩) hn x4).setCell (p:=⟨B,5,none⟩) hn x5
end Go.Proofs.YtdolgmmldncfkaaGreatDoor.Base
namespace Go.Proofs.YtdolgmmldncfkaaGreatDoor.Clone
open Go.RowKit Base
theorem cloneT_c (v:Value) (L:List ByteArray) (w:World) (h:Tx false All w v L) :
  Calls prog 49 #[v] w fun e w'=>∃ u,e=.returned u/\OwnT w' w.heap.size u L/\Below w.heap.size w w':=by
 obtain⟨i0,hi,hz0,hz1,hz2⟩:=info_parts info9;obtain⟨a,cap,rfl,hlc,hm,hlen,hsz,hnil,hN⟩:=h.out;have ho:OwnT (w.alloc (.cells #[] 9)) w.heap.size (.slice (some ⟨w.heap.size,0,none⟩) 0 0) []:=by
  refine⟨rfl,.inr ⟨w.heap.size,0,#[],rfl,Nat.le_refl _,heap_alloc_new w _,Nat.le_refl _,by simp [maxLen],rfl,rfl⟩⟩
 have q22:∀ (w:World) (a:Option Addr) (n c n' c':Nat),(binOp .eql 23 (.slice a n c) (.slice none n' c')).run prog w=.ok (.bool a.isNone) w:=fun w a n c n' c'=>Lib.run_eql_slice_nil w _ _ a n c n' c' underlying23
 have hb:Below w.heap.size w (w.alloc (.cells #[] 9)):=(Below.refl _ w).alloc (Nat.le_refl _) _;cases a with
 | none=>
  obtain rfl:=hnil rfl;obtain rfl:L=[]:=List.eq_nil_of_length_eq_zero (by omega);go_enter func49,ntmps49;go_wp2_with fail
  go_ret
  exact⟨_,rfl,World.ownsRow_nil _ _ _ _,Below.refl _ _⟩
 | some x=>
  obtain⟨g,o,sp⟩:=x;have hnews:∀ j u,(L.map Value.string)[j]? = some u->(w.alloc (.cells #[] 9)).cell? ((⟨g,o,sp⟩ : Addr).add j)=some u:=by
   intro j u hj;have hl:j<L.length:=by
    have:=(List.getElem?_eq_some_iff.1 hj).1;simpa using this
   obtain⟨g',o',e,-,hc⟩:=name_at hN hl;cases e;rw[add_none];have hj':u=.string L[j]:=by simpa [hl] using hj.symm
   rw[hj'];exact below_cell hc hb
  clear hN h;go_enter func49,ntmps49;go_wp2_with (first
   | (at_builtin;refine wpList_append_own _ rfl _ _ 23 rfl w.heap.size 9 i0 (.string ⟨#[]⟩) 1 16 underlying23 hi hz0 hz1 hz2 rfl (by decide) _ _ _ rfl ho ⟨g,o,sp⟩ L.length cap (L.map Value.string) rfl (by simp) hnews (one_texts L) (by unfold maxLen;simp;omega) (by simp;omega) (by simp) ?_))
  intro v' w2 hown' hgrow hnn;have hb3:=hb.grown hgrow (by simp) (fun k hk=>by cases hk;exact Nat.le_refl _);have ho2:OwnT w2 w.heap.size v' L:=by
   unfold OwnT;simpa using hown'
  clear hown' hgrow ho hb hnews hnn;go_wp2_with fail
  go_ret
  exact⟨_,rfl,ho2,hb3⟩
theorem elems {S:Nat->Prop} {w:World} {m:Nat} {a:Option Addr} {cap:Nat} {l:List C} (hL:LAt false S w m a cap l) :
  ∃ os:List Value,os.length=l.length/\Sixes os/\(∀ j (h:j<os.length) (h':j<l.length),In false S w m os[j] l[j]) /\
   ∀ g o,a=some ⟨g,o,none⟩->∀ j (h:j<os.length),Six w g (o+j*6) os[j]:=by
 rcases hL with ⟨rfl,_⟩|⟨g,o,rfl,hS,hc,_⟩
 ·exact⟨[],rfl,fun u hu=>(by cases hu),fun j h=>by simp at h,fun g o _ j h=>by simp at h⟩
 ·have:∀ j:Fin l.length,∃ u,Six w g (o+j.1*6) u/\In false S w m u l[j.1]:=fun j=>hc j.1 j.2
  obtain⟨f,hf⟩:=Classical.axiomOfChoice this;refine⟨List.ofFn f,by simp,?_,?_,?_⟩
  ·intro u hu
   obtain⟨j,rfl⟩:=List.mem_ofFn.1 hu;exact (hf j).2.six
  ·intro j h h'
   have:=(hf ⟨j,h'⟩).2;simpa using this
  ·rintro g' o' e j h
   cases e;have h':j<l.length:=by simpa using h
   have:=(hf ⟨j,h'⟩).1;simpa using this
theorem flat_one {us:List Value} (h:Sixes us):∀ u ∈ flat us,u.oneCell'=true:=by
 intro u hu;obtain⟨x,hx,hu⟩:=List.mem_flatMap.1 hu;obtain⟨v0,v1,v2,v3,v4,v5,rfl,h1⟩:=h x hx;exact h1 u (by simpa [Value.cells] using hu)
theorem flat_cells {w:World} {g o:Nat} {us:List Value} (h:∀ j (h:j<us.length),Six w g (o+j*6) us[j]) (hs:Sixes us):∀ j u,(flat us)[j]? = some u->w.cell? ⟨g,o+j,none⟩=some u:=by
 intro j u hj;have hlt:j<us.length*6:=by rw[<- flat_len hs];exact (List.getElem?_eq_some_iff.1 hj).1
 have hq:j / 6<us.length:=by omega
 have hr:j % 6<6:=by omega
 have e:j / 6*6+j % 6=j:=by omega
 have hg:=flat_get hs (j / 6) hq (j % 6) hr;rw[e,hj] at hg;obtain⟨v0,v1,v2,v3,v4,v5,e6,c0,c1,c2,c3,c4,c5⟩:=h (j / 6) hq;rw[e6] at hg;have hcase:j % 6=0\/j % 6=1\/j % 6=2\/j % 6=3\/j % 6=4\/j % 6=5:=by omega
 rcases hcase with h6|h6|h6|h6|h6|h6 <;> rw[h6] at hg e <;> simp only [Value.cells] at hg <;> simp at hg <;> subst hg
 ·rw[show o+j=o+j / 6*6 by omega];exact c0
 ·rw[show o+j=o+j / 6*6+1 by omega];exact c1
 ·rw[show o+j=o+j / 6*6+2 by omega];exact c2
 ·rw[show o+j=o+j / 6*6+3 by omega];exact c3
 ·rw[show o+j=o+j / 6*6+4 by omega];exact c4
 ·rw[show o+j=o+j / 6*6+5 by omega];exact c5
theorem cloneV_c {S:Nat->Prop} (m:Nat) (v:Value) (l:List C) (w:World) (h:InL false S w m v l) :
  Calls prog 70 #[v] w fun e w'=>∃ u,e=.returned u/\∃ os,OwnV w' w.heap.size u os/\os.length=l.length/\(∀ j (h:j<os.length) (h':j<l.length),In false S w m os[j] l[j])/\Below w.heap.size w w':=by
 obtain⟨i0,hi,hz0,hz1,hz2⟩:=info_parts info25;obtain⟨a,cap,rfl,hlc,hm,hlen,hnil,hL⟩:=h.out;obtain⟨os,hos,hsix,hins,hcs⟩:=elems hL;have ho:(w.alloc (.cells #[] 26)).ownsRow w.heap.size 26 6 (.slice (some ⟨w.heap.size,0,none⟩) 0 0) 0 []:=by
  refine⟨rfl,.inr ⟨w.heap.size,0,#[],rfl,Nat.le_refl _,heap_alloc_new w _,Nat.le_refl _,by simp [maxLen],rfl,rfl⟩⟩
 have q23:∀ (w:World) (a:Option Addr) (n c n' c':Nat),(binOp .eql 24 (.slice a n c) (.slice none n' c')).run prog w=.ok (.bool a.isNone) w:=fun w a n c n' c'=>Lib.run_eql_slice_nil w _ _ a n c n' c' underlying24
 have hb:Below w.heap.size w (w.alloc (.cells #[] 26)):=(Below.refl _ w).alloc (Nat.le_refl _) _;have HH:Hid (os.length=l.length/\Sixes os/\∀ j (h:j<os.length) (h':j<l.length),In false S w m os[j] l[j]):=⟨hos,hsix,hins⟩;cases a with
 | none=>
  obtain rfl:=hnil rfl;obtain rfl:l=[]:=List.eq_nil_of_length_eq_zero (by omega);obtain rfl:os=[]:=List.eq_nil_of_length_eq_zero (by simpa using hos);clear hos hsix hins hcs hL;go_enter func70,ntmps70;go_wp2_with fail
  go_ret
  exact⟨_,rfl,[],⟨World.ownsRow_nil _ _ _ _,HH.out.2.1⟩,rfl,Below.refl _ _⟩
 | some x=>
  obtain⟨g,o,sp⟩:=x;have hnews:∀ j u,(flat os)[j]? = some u->(w.alloc (.cells #[] 26)).cell? ((⟨g,o,sp⟩ : Addr).add j)=some u:=by
   intro j u hj;have hl:j<os.length*6:=by rw[<- flat_len hsix];exact (List.getElem?_eq_some_iff.1 hj).1
   obtain⟨g',o',u',e,-⟩:=elem_at hL (q:=0) (by omega);cases e;rw[add_none];exact below_cell (flat_cells (hcs g o rfl) hsix j u hj) hb
  have hfl:(flat os).length=l.length*6:=by rw[flat_len hsix,hos]
  have hf1:=flat_one hsix;have Hfl:=hid hfl;obtain⟨F,hF⟩ : ∃ F,flat os=F:=⟨_,rfl⟩;have HF:=hid hF;rw[hF] at hnews hfl hf1;clear hF hL h hos hsix hins hcs hfl Hfl;have hfl:F.length=l.length*6:=by rw[<- HF.out,flat_len HH.out.2.1,HH.out.1]
  go_enter func70,ntmps70;go_wp2_with (first
   | (at_builtin;refine wpList_append_own _ rfl _ _ 24 rfl w.heap.size 26 i0 (.agg #[.int .i64 0,.bool false,.int .i64 0,.string ⟨#[]⟩,.slice none 0 0,.slice none 0 0]) 6 88 underlying24 hi hz0 hz1 hz2 rfl (by decide) _ _ _ rfl ho ⟨g,o,sp⟩ l.length cap F rfl hfl hnews hf1 (by unfold maxLen;simp;omega) (by simp;omega) (by simp) ?_))
  intro v' w2 hown' hgrow hnn;have hb3:=hb.grown hgrow (by simp) (fun k hk=>by cases hk;exact Nat.le_refl _);have ho2:OwnV w2 w.heap.size v' os:=by
   refine⟨?_,HH.out.2.1⟩;rw[HF.out,HH.out.1];simpa using hown'
  clear hown' hgrow ho hb hnews hnn hf1 hfl;go_wp2_with fail
  go_ret
  exact⟨_,rfl,os,ho2,HH.out.1,HH.out.2.2,hb3⟩
end Go.Proofs.YtdolgmmldncfkaaGreatDoor.Clone
namespace Go.Proofs.YtdolgmmldncfkaaGreatDoor.Fresh
open Go.RowKit Base
theorem own_keep {w w':World} {B:Nat} {e:TypeId} {s n:Nat} {v:Value} {xs:List Value} (h:w.ownsRow B e s v n xs) (hk:∀ g,v.ownBlock=some g->w'.heap[g]? = w.heap[g]?):w'.ownsRow B e s v n xs:=by
 refine⟨h.1,?_⟩;rcases h.2 with h2|⟨g,cap,cur,rfl,hg,hh,r⟩
 ·exact .inl h2
 ·exact .inr ⟨g,cap,cur,rfl,hg,(hk g rfl).trans hh,r⟩
theorem Tx.low {w:World} {v:Value} {n:List ByteArray} (h:Tx false All w v n):Tx false (fun b=>b<w.heap.size) w v n:=by
 obtain⟨a,cap,h1,h2,h3,h4,h5,h6,h7⟩:=h;refine⟨a,cap,h1,h2,h3,h4,h5,h6,?_⟩;by_cases hn:n=[]
 ·exact .inl ⟨hn,rfl⟩
 ·rcases h7 with ⟨h7,_⟩|⟨g,o,ha,hS,hc,hr⟩
  ·exact absurd h7 hn
  ·exact .inr ⟨g,o,ha,cell_lt (hc 0 (List.length_pos_iff.2 hn)),hc,fun h=>by cases h⟩
theorem In.low {w:World}:∀ {m:Nat} {v:Value} {c:C},In false All w m v c->In false (fun b=>b<w.heap.size) w m v c:=by
 intro m;induction m with
 | zero=>intro v c h;rw[In] at h;exact h.elim
 | succ m ih=>
  intro v c h;obtain⟨k,b,i,s,n,l⟩:=c;rw[in_iff] at h ⊢;obtain⟨nv,lv,h1,h2,h3,h4,h5,⟨a,cap,g1,g2,g3,g4,g5,g6⟩⟩:=h;refine⟨nv,lv,h1,h2,h3,h4,Tx.low h5,a,cap,g1,g2,g3,g4,g5,?_⟩;by_cases hl:l=[]
  ·exact .inl ⟨hl,rfl⟩
  ·rcases g6 with ⟨g6,_⟩|⟨g,o,ha,hS,hc,hr⟩
   ·exact absurd g6 hl
   ·have hpos:=List.length_pos_iff.2 hl
    obtain⟨u0,hu0,_⟩:=hc 0 hpos;obtain⟨v0,v1,v2,v3,v4,v5,_,c0,_⟩:=hu0;refine .inr ⟨g,o,ha,cell_lt c0,fun j hj=>?_,fun h=>by cases h⟩;obtain⟨u,hu,hin⟩:=hc j hj;exact⟨u,hu,ih hin⟩
end Go.Proofs.YtdolgmmldncfkaaGreatDoor.Fresh
namespace Go.Proofs.YtdolgmmldncfkaaGreatDoor.Open
open Go.ChangeShapes Go.WideShapes Go.ChangeAt Go.RowKit Base
theorem cells9:prog.cellsOf 9=1:=by kernel_rfl
theorem cells25:prog.cellsOf 26=6:=by kernel_rfl
theorem cells3:prog.cellsOf 3=1:=by kernel_rfl
theorem cells4:prog.cellsOf 4=1:=by kernel_rfl
theorem cells22:prog.cellsOf 23=1:=by kernel_rfl
theorem cells23:prog.cellsOf 24=1:=by kernel_rfl
theorem bytes9:prog.bytesOf 9=16:=by kernel_rfl
theorem bytes25:prog.bytesOf 26=88:=by kernel_rfl
theorem cells_at {w:World} {a:Addr} {n:Nat} {cs:List Value} (h:w.cells? 0 a n=some cs):cs.length=n/\∀ j (hj:j<n),w.cell? (a.add j)=cs[j]?:=by
 unfold World.cells? at h;rw[if_pos (Nat.zero_le _)] at h;have hl:=mapM_some_length h;refine⟨by simpa using hl,fun j hj=>?_⟩;have:=mapM_some_get h j j (by simp [hj]);exact this
theorem list_six {α:Type} {l:List α} (h:l.length=6):∃ c0 c1 c2 c3 c4 c5,l=[c0,c1,c2,c3,c4,c5]:=by
 match l,h with
 | [c0,c1,c2,c3,c4,c5],_=>exact⟨c0,c1,c2,c3,c4,c5,rfl⟩
theorem spot_none {w:World} {a:Addr} {v:Value} (h:w.cell? (a.add 0)=some v):∃ g o,a=⟨g,o,none⟩:=by
 obtain⟨g,o,sp⟩:=a;cases sp with
 | none=>exact⟨g,o,rfl⟩
 | some x=>
  simp only [Addr.add, if_true, World.cell?] at h;split at h
  ·simp at h
  ·cases h
theorem weightsAll_mem {H:Type} {P:Program} {e:TypeId} {d:DataW H} {q:Nat}:∀ {ds:List (DataW H)},d ∈ ds->q ∈ DataW.weights P e d->q ∈ DataW.weightsAll P e ds
 | [],hd,_=>by cases hd
 | d' :: r,hd,hq=>by
  rw[DataW.weightsAll,List.mem_append];rcases List.mem_cons.1 hd with rfl|h
  ·exact .inl hq
  ·exact .inr (weightsAll_mem h hq)
section
variable {H:Type} {enc:TypeId × Value->H} {W:World}
theorem open_txs {fuel:Nat} {cs:List Value} {x:DataW H × List MemPlace} (h:DataW.trod enc prog W 0 (fun _=>true) true fuel 23 cs=some x) (hw:∀ q ∈ DataW.weights prog 23 x.1,q<=reachBytes) :
  ∃ nv n,cs=[nv]/\Tx false All W nv n:=by
 rcases DataW.trod_slice underlying23 h with ⟨rfl,rfl⟩|⟨a,len,cap,els,rest,m,rfl,rfl,rfl,_,hl,hm,hlen,hel,-,-⟩
 ·exact⟨_,[],rfl,none,0,rfl,by simp,by simp,by simp,by simp,fun _=>rfl,.inl ⟨rfl,rfl⟩⟩
 ·have hone:∀ j:Fin len,∃ s:ByteArray,W.cell? (a.add j.1)=some (.string s)/\s.size<=140737488351232:=by
   rintro⟨j,hj⟩;have hh:=hel j hj;rw[List.getElem?_eq_getElem (by omega),Option.bind_eq_some_iff] at hh;obtain⟨c',hc,ht⟩:=hh;rw[cells9,Nat.mul_one] at hc;obtain⟨hl1,hcc⟩:=cells_at hc;obtain⟨s,rfl,hs,-⟩:=DataW.trod_string underlying9 ht;refine⟨s,?_,?_⟩
   ·have:=hcc 0 (by omega)
    rw[show (a.add j).add 0=a.add j from by simp [Addr.add]] at this;simpa using this
   ·have:=hw s.data.toList.length (by
     rw[DataW.weights,underlying23];refine List.mem_cons_of_mem _ (List.mem_append.2 (.inl (weightsAll_mem (d:=.lit (.string s.data.toList)) ?_ ?_)))
     ·rw[List.mem_map]
      exact⟨els[j]'(by omega),List.getElem_mem _,by rw[hs]⟩
     ·simp [DataW.weights])
    simp only [reachBytes] at this;have hl:s.data.toList.length=s.size:=Array.length_toList;omega
  have hb16:len*16<=140737488351232:=by
   have:=hw ((els.length+rest.length)*16) (by
    rw[DataW.weights,underlying23];simp [bytes9])
   simp only [reachBytes] at this;omega
  obtain⟨f,hf⟩:=Classical.axiomOfChoice hone;refine⟨_,List.ofFn f,rfl,⟨some a,cap,by simp,by simpa using hl,hm,by simpa using hb16,?_,(fun h=>by cases h),?_⟩⟩
  ·intro t ht
   obtain⟨j,rfl⟩:=List.mem_ofFn.1 ht;exact (hf j).2
  ·by_cases h0:len=0
   ·subst h0
    exact .inl ⟨by simp,rfl⟩
   ·obtain⟨g,o,rfl⟩:=spot_none (hf ⟨0,by omega⟩).1
    refine .inr ⟨g,o,rfl,trivial,fun j hj=>?_,fun h=>by cases h⟩;have hj':j<len:=by simpa using hj
    have:=(hf ⟨j,hj'⟩).1;rw[add_none] at this;simpa using this
theorem open_val:∀ {fuel:Nat} {cs:List Value} {x:DataW H × List MemPlace},DataW.trod enc prog W 0 (fun _=>true) true fuel 26 cs=some x->(∀ q ∈ DataW.weights prog 26 x.1,q<=reachBytes) ->
  ∃ c,In false All W fuel (.agg cs.toArray) c:=by
 intro fuel;induction fuel using Nat.strongRecOn with
 | _ fuel ih=>
  intro cs x h hw;obtain⟨xs,n,rfl,rfl,hcl,hxl,hf⟩:=DataW.trod_struct underlying26 h;rw[cells25] at hcl;have hxl6:xs.length=6:=hxl;clear hxl;obtain⟨c0,c1,c2,c3,c4,c5,rfl⟩:=list_six hcl;obtain⟨x0,x1,x2,x3,x4,x5,rfl⟩:=list_six hxl6;have f0:=hf 0 _ rfl;have f1:=hf 1 _ rfl;have f2:=hf 2 _ rfl;have f3:=hf 3 _ rfl;have f4:=hf 4 _ rfl;have f5:=hf 5 _ rfl;simp [cells3] at f0
  simp [cells4] at f1
  simp [cells3] at f2
  simp [cells9] at f3
  simp [cells22] at f4
  simp [cells23] at f5
  obtain⟨k,e0,e0',hk⟩:=DataW.trod_int underlying3 f0;obtain⟨b,e1,e1'⟩:=DataW.trod_bool underlying4 f1;obtain⟨i,e2,e2',hi⟩:=DataW.trod_int underlying3 f2;obtain⟨s,e3,e3',hs⟩:=DataW.trod_string underlying9 f3;have W0:∀ q,q ∈ DataW.weights prog 9 x3.1\/q ∈ DataW.weights prog 23 x4.1\/q ∈ DataW.weights prog 24 x5.1->q<=reachBytes:=by
   intro q hq;apply hw
   simp only [List.map_cons, List.map_nil];rw[DataW.weights,underlying26];simp only [List.map_cons, List.map_nil, DataW.weightsEach, List.mem_append];rcases hq with hq|hq|hq
   ·simp [hq]
   ·simp [hq]
   ·simp [hq]
  obtain⟨nv,ns,e4,hT⟩:=open_txs f4 (fun q hq=>W0 q (.inr (.inl hq)));have hss:s.size<=140737488351232:=by
   have:=W0 s.data.toList.length (.inl (by rw[e3'];simp [DataW.weights]));simp only [reachBytes] at this;have hl:s.data.toList.length=s.size:=Array.length_toList;omega
  simp only [List.cons.injEq, and_true] at e0 e1 e2 e3 e4;subst e0 e1 e2 e3 e4;have hL:∃ l,InL false All W n c5 l:=by
   rcases DataW.trod_slice underlying24 f5 with ⟨e5,-⟩|⟨a,len,cap,els,rest,n',rfl,e5,e5',_,hl,hm,hlen,hel,-,-⟩
   ·simp only [List.cons.injEq, and_true] at e5
    subst e5;exact⟨[],none,0,rfl,by simp,by simp,by simp,fun _=>rfl,.inl ⟨rfl,rfl⟩⟩
   ·simp only [List.cons.injEq, and_true] at e5
    subst e5;have hone:∀ j:Fin len,∃ (c:C) (u:Value),(∃ cs':List Value,u=.agg cs'.toArray/\cs'.length=6/\∀ i (hi:i<6),W.cell? ((a.add (j.1*6)).add i)=cs'[i]?)/\In false All W n' u c:=by
     rintro⟨j,hj⟩;have hh:=hel j hj;rw[List.getElem?_eq_getElem (by omega),Option.bind_eq_some_iff] at hh;obtain⟨c',hc,ht⟩:=hh;rw[cells25] at hc;obtain⟨hl1,hcc⟩:=cells_at hc;obtain⟨c,hin⟩:=ih n' (by omega) ht (fun q hq=>W0 q (.inr (.inr (by
      rw[e5',DataW.weights,underlying24];refine List.mem_cons_of_mem _ (List.mem_append.2 (.inl (weightsAll_mem (d:=els[j].1) ?_ hq)));rw[List.mem_map];exact⟨els[j]'(by omega),List.getElem_mem _,rfl⟩))))
     exact⟨c,_,⟨c',rfl,hl1,hcc⟩,hin⟩
    have hb88:len*88<=140737488351232:=by
     have:=W0 ((els.length+rest.length)*88) (.inr (.inr (by
      rw[e5',DataW.weights,underlying24];simp [bytes25])))
     simp only [reachBytes] at this;omega
    obtain⟨f,hf⟩:=Classical.axiomOfChoice hone;refine⟨List.ofFn f,some a,cap,by simp,by simpa using hl,hm,by simpa using hb88,(fun h=>by cases h),?_⟩;by_cases h0:len=0
    ·subst h0
     exact .inl ⟨by simp,rfl⟩
    ·have hcell0:∃ v,W.cell? (a.add 0)=some v:=by
      obtain⟨u,⟨c',-,hl6,hcc⟩,-⟩:=hf ⟨0,by omega⟩;have:=hcc 0 (by omega);rw[show (a.add (0*6)).add 0=a.add 0 from by simp [Addr.add]] at this;exact⟨c'[0],by rw[this,List.getElem?_eq_getElem]⟩
     obtain⟨v,hv⟩:=hcell0;obtain⟨g,o,rfl⟩:=spot_none hv;refine .inr ⟨g,o,rfl,trivial,fun j hj=>?_,fun h=>by cases h⟩;have hj':j<len:=by simpa using hj
     obtain⟨u,⟨c',rfl,hl6,hcc⟩,hin⟩:=hf ⟨j,hj'⟩;obtain⟨y0,y1,y2,y3,y4,y5,rfl⟩:=list_six hl6;have g0:=hcc 0 (by omega);have g1:=hcc 1 (by omega);have g2:=hcc 2 (by omega);have g3:=hcc 3 (by omega);have g4:=hcc 4 (by omega);have g5:=hcc 5 (by omega);simp only [add_none] at g0 g1 g2 g3 g4 g5;refine⟨_,⟨y0,y1,y2,y3,y4,y5,rfl,g0,g1,g2,g3,g4,g5⟩,?_⟩;have:=hin.weak (fun _ h=>h) false id (n'+1) (by omega);simpa using this
  obtain⟨l,hL⟩:=hL;refine⟨.mk k b i s ns l,?_⟩;rw[in_iff];exact⟨_,_,rfl,bounds_i64 hk,bounds_i64 hi,hss,hT,hL⟩
end
end Go.Proofs.YtdolgmmldncfkaaGreatDoor.Open
namespace Go.Proofs.YtdolgmmldncfkaaGreatDoor.GFu
open Go.ChangeShapes Go.WideShapes Go.ChangeAt Go.RowKit Base Digits
theorem own:ownKnob prog.godebug=none:=by kernel_rfl
theorem gTab : prog.globalNamed "internal/strconv.uint64pow10" = some 1 := by kernel_rfl
theorem gTabType:(prog.globals[1]?).map (·.type)=some 223:=by kernel_rfl
theorem cells95:prog.cellsOf 223=20:=by kernel_rfl
theorem cells73:prog.cellsOf 176=1:=by kernel_rfl
theorem tab_of {W:World} (h:laidMetH prog Rows.renderJoinsUptoRow.laid W):Tab W:=
 Lib.tabIs_of_head (rest:=[]) gTab gTabType underlying223 underlying176 cells73 cells95 (laidMet.tail (laidMet.tail h))
def lay (cs:Array Value):Obj->Obj
 | .cells _ t frozen=>.cells cs t frozen
 | o=>o
def laidW (w:World):World:=
 { w with heap:=((w.heap.modify 1 (lay #[.int .u64 1,.int .u64 10,.int .u64 100,.int .u64 1000,.int .u64 10000,.int .u64 100000,.int .u64 1000000,.int .u64 10000000,.int .u64 100000000,.int .u64 1000000000,.int .u64 10000000000,.int .u64 100000000000,.int .u64 1000000000000,.int .u64 10000000000000,.int .u64 100000000000000,.int .u64 1000000000000000,.int .u64 10000000000000000,.int .u64 100000000000000000,.int .u64 1000000000000000000,.int .u64 10000000000000000000])).modify 2 (lay #[.int .u8 0,.int .u8 1,.int .u8 28,.int .u8 2,.int .u8 29,.int .u8 14,.int .u8 24,.int .u8 3,.int .u8 30,.int .u8 22,.int .u8 20,.int .u8 15,.int .u8 25,.int .u8 17,.int .u8 4,.int .u8 8,.int .u8 31,.int .u8 27,.int .u8 13,.int .u8 23,.int .u8 21,.int .u8 19,.int .u8 16,.int .u8 7,.int .u8 26,.int .u8 12,.int .u8 18,.int .u8 6,.int .u8 11,.int .u8 5,.int .u8 10,.int .u8 9])).modify 3 (lay #[.int .u8 0,.int .u8 1,.int .u8 56,.int .u8 2,.int .u8 57,.int .u8 49,.int .u8 28,.int .u8 3,.int .u8 61,.int .u8 58,.int .u8 42,.int .u8 50,.int .u8 38,.int .u8 29,.int .u8 17,.int .u8 4,.int .u8 62,.int .u8 47,.int .u8 59,.int .u8 36,.int .u8 45,.int .u8 43,.int .u8 51,.int .u8 22,.int .u8 53,.int .u8 39,.int .u8 33,.int .u8 30,.int .u8 24,.int .u8 18,.int .u8 12,.int .u8 5,.int .u8 63,.int .u8 55,.int .u8 48,.int .u8 27,.int .u8 60,.int .u8 41,.int .u8 37,.int .u8 16,.int .u8 46,.int .u8 35,.int .u8 44,.int .u8 21,.int .u8 52,.int .u8 32,.int .u8 23,.int .u8 11,.int .u8 54,.int .u8 26,.int .u8 40,.int .u8 15,.int .u8 34,.int .u8 20,.int .u8 31,.int .u8 10,.int .u8 25,.int .u8 14,.int .u8 19,.int .u8 9,.int .u8 13,.int .u8 8,.int .u8 7,.int .u8 6]) }
theorem laidOut:laidOutB prog=true:=by kernel_rfl
theorem come {H:Type} {enc:TypeId × Value->H} {W:World} {base:Nat} {v:Value} {d:DataW H} {p:List MemPlace} {ts:List TypeId} {ds:List (DataW H)} {j:Nat}
  (hval:Value.okWide prog W .any base 26 v) (h:DataW.Trod enc prog W 0 (fun _=>true) true 26 v d p)
  (hsz:(DataW.weightsEach prog ts ds).all (· <= reachBytes)=true) (ht:ts[j]? = some 26) (hd:ds[j]? = some d) :
  (∃ m c,In false (fun b=>b<W.heap.size) W m v c)/\∀ W',Below W.heap.size W W'->DataW.Trod enc prog W' 0 (fun b=>decide (b<W.heap.size)) true 26 v d p:=by
 have lt0:∀ x ∈ p,x.block<W.heap.size:=by obtain⟨m,hm⟩:=h;exact DataW.trod_lt m _ _ _ hm
 refine⟨?_,fun W' bel=>Below.trod laidOut (by kernel_rfl) (of_decide_eq_true (by kernel_rfl)) h bel lt0⟩;obtain⟨cs,rfl,-⟩:=okWide_struct underlying26 hval;obtain⟨fuel,hf⟩:=h;obtain⟨c,hc⟩:=Open.open_val hf fun q hq=>by simpa using List.all_eq_true.1 hsz q (DataW.weights_mem_each ht hd q hq)
 exact⟨fuel,c,Fresh.In.low (by simpa [Value.cells] using hc)⟩
end Go.Proofs.YtdolgmmldncfkaaGreatDoor.GFu

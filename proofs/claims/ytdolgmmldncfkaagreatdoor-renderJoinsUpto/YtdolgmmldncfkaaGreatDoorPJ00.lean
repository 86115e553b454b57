import Derived.Below
import Derived.Laws.AppendOwn
import Derived.Laws.BytesArg
import Derived.Lib.ItoaMem
import Derived.LoopN
import Derived.LoopTactic
import Derived.OpenShut
import Derived.ProofKit
import Derived.Shelf.Bits.Mul64
import Derived.Shelf.LaysM
import Derived.Shelf.Slices.Equal
import Derived.Shelf.Slices.Turned
import Derived.Shelf.Small.Strs
import Derived.Shelf.Small.Wraps
import Derived.Shelf.Strconv.Itoa0
import Derived.Shelf.Strconv.Itoa1
import Derived.Shelf.Strconv.Itoa2
import Derived.Shelf.Strconv.Itoa3
import Derived.Shelf.Strings.Builder1
import Derived.Shelf.Strings.BuilderF
import Derived.Shelf.Strings.BuilderK
import Derived.Shelf.Strings.Prefix
import Derived.Test.YtdolgmmldncfkaaGreatDoorProg
import Derived.WalkKit
import Derived.WalkLawsBesides
open Go.Proofs.Tryz
set_option linter.unusedVariables false
namespace Go.Proofs.YtdolgmmldncfkaaGreatDoor.Base
theorem zA {α:Type _} {xs:List α} {i:Nat} (h:i<xs.toArray.size):xs.toArray[i]=xs[i]'(by simpa using h):=rfl
theorem zB {α:Type _} {a:α} {bs:List α} {h:0<(a :: bs).length}:getElem (a :: bs) 0 h=a:=rfl
theorem zC {α:Type _} {a:α} {bs:List α} {i:Nat} {h:i+1<(a :: bs).length}:getElem (a :: bs) (i+1) h=getElem bs i (Nat.lt_of_succ_lt_succ h):=rfl
theorem zD {α:Type _} {l:List α} {i:Nat} {a:α}:l.toArray.setIfInBounds i a=(l.set i a).toArray:=List.setIfInBounds_toArray ..
theorem zE {α:Type _} {x:α} {xs:List α} {a:α}:(x :: xs).set 0 a=a :: xs:=rfl
theorem zF {α:Type _} {x:α} {xs:List α} {i:Nat} {a:α}:(x :: xs).set (i+1) a=x :: xs.set i a:=rfl
open Go.RowKit
structure C where
 mk ::
 (k0:Int) (b0:Bool) (i0:Int) (s0:ByteArray) (n0:List ByteArray) (l0:List C)
def C.k:C->Int | .mk k _ _ _ _ _=>k
def C.b:C->Bool | .mk _ b _ _ _ _=>b
def C.i:C->Int | .mk _ _ i _ _ _=>i
def C.s:C->ByteArray | .mk _ _ _ s _ _=>s
def C.n:C->List ByteArray | .mk _ _ _ _ n _=>n
def C.l:C->List C | .mk _ _ _ _ _ l=>l
def room:ByteArray:=⟨#[126,114,111,111,109]⟩
def behind:ByteArray:=⟨#[126,98,101,104,105,110,100]⟩
def room7:Value:=.agg #[.int .i64 (-7),.bool false,.int .i64 0,.string ⟨#[]⟩,.slice none 0 0,.slice none 0 0]
def Six (w:World) (g o:Nat) (u:Value):Prop:=
 ∃ v0 v1 v2 v3 v4 v5,u=.agg #[v0,v1,v2,v3,v4,v5]/\w.cell? ⟨g,o,none⟩=some v0/\w.cell? ⟨g,o+1,none⟩=some v1/\w.cell? ⟨g,o+2,none⟩=some v2 /\
  w.cell? ⟨g,o+3,none⟩=some v3/\w.cell? ⟨g,o+4,none⟩=some v4/\w.cell? ⟨g,o+5,none⟩=some v5
def Tx (r:Bool) (S:Nat->Prop) (w:World) (v:Value) (n:List ByteArray):Prop:=
 ∃ a cap,v=.slice a n.length cap/\n.length<=cap/\cap<=maxLen/\n.length*16<=140737488351232/\(∀ t ∈ n,t.size<=140737488351232)/\(a=none->cap=0) /\
  ((n=[]/\r=false) \/ ∃ g o,a=some ⟨g,o,none⟩/\S g/\(∀ j (h:j<n.length),w.cell? ⟨g,o+j,none⟩=some (.string n[j])) /\
   (r=true->n.length+2<=cap/\w.cell? ⟨g,o+n.length,none⟩=some (.string room)/\w.cell? ⟨g,o+n.length+1,none⟩=some (.string behind)))
def In (r:Bool) (S:Nat->Prop) (w:World):Nat->Value->C->Prop
 | 0,_,_=>False
 | m+1,v,.mk k b i s n l=>∃ nv a cap,v=.agg #[.int .i64 k,.bool b,.int .i64 i,.string s,nv,.slice a l.length cap] /\
   (-9223372036854775808<=k/\k<=9223372036854775807)/\(-9223372036854775808<=i/\i<=9223372036854775807)/\s.size<=140737488351232/\Tx r S w nv n /\
   l.length<=cap/\cap<=maxLen/\l.length*88<=140737488351232/\(a=none->cap=0) /\
   ((l=[]/\r=false) \/ ∃ g o,a=some ⟨g,o,none⟩/\S g/\(∀ j (h:j<l.length),∃ u,Six w g (o+j*6) u/\In r S w m u l[j]) /\
    (r=true->l.length+2<=cap/\Six w g (o+l.length*6) room7/\Six w g (o+l.length*6+6) room7))
def InL (r:Bool) (S:Nat->Prop) (w:World) (m:Nat) (v:Value) (l:List C):Prop:=
 ∃ a cap,v=.slice a l.length cap/\l.length<=cap/\cap<=maxLen/\l.length*88<=140737488351232/\(a=none->cap=0) /\
   ((l=[]/\r=false) \/ ∃ g o,a=some ⟨g,o,none⟩/\S g/\(∀ j (h:j<l.length),∃ u,Six w g (o+j*6) u/\In r S w m u l[j]) /\
    (r=true->l.length+2<=cap/\Six w g (o+l.length*6) room7/\Six w g (o+l.length*6+6) room7))
theorem in_iff {r:Bool} {S:Nat->Prop} {w:World} {m:Nat} {v:Value} {k:Int} {b:Bool} {i:Int} {s:ByteArray} {n:List ByteArray} {l:List C} :
  In r S w (m+1) v (.mk k b i s n l) ↔ ∃ nv lv,v=.agg #[.int .i64 k,.bool b,.int .i64 i,.string s,nv,lv] /\
   (-9223372036854775808<=k/\k<=9223372036854775807)/\(-9223372036854775808<=i/\i<=9223372036854775807)/\s.size<=140737488351232/\Tx r S w nv n/\InL r S w m lv l:=by
 constructor
 ·intro h
  rw[In] at h;obtain⟨nv,a,cap,h1,h2,h3,h4,h5,h6⟩:=h;exact⟨nv,_,h1,h2,h3,h4,h5,a,cap,rfl,h6⟩
 ·rintro⟨nv,lv,h1,h2,h3,h4,h5,a,cap,rfl,h6⟩
  rw[In];exact⟨nv,a,cap,h1,h2,h3,h4,h5,h6⟩
theorem cell_lt {w:World} {a:Addr} {v:Value} (h:w.cell? a=some v):a.block<w.heap.size:=by
 unfold World.cell? at h;split at h
 ·next hh=>exact (Array.getElem?_eq_some_iff.1 hh).1
 ·cases h
def Keep (S:Nat->Prop) (w w':World):Prop:=∀ b,S b->b<w.heap.size->w'.heap[b]? = w.heap[b]?
theorem Keep.cell {S:Nat->Prop} {w w':World} (h:Keep S w w') {g o:Nat} {v:Value} (hS:S g) (hc:w.cell? ⟨g,o,none⟩=some v):w'.cell? ⟨g,o,none⟩=some v:=
 (World.cell?_of_block (w:=w) (h g hS (cell_lt hc))).trans hc
theorem Keep.six {S:Nat->Prop} {w w':World} (h:Keep S w w') {g o:Nat} {v:Value} (hS:S g) (hc:Six w g o v):Six w' g o v:=by
 obtain⟨v0,v1,v2,v3,v4,v5,rfl,c0,c1,c2,c3,c4,c5⟩:=hc;exact⟨v0,v1,v2,v3,v4,v5,rfl,h.cell hS c0,h.cell hS c1,h.cell hS c2,h.cell hS c3,h.cell hS c4,h.cell hS c5⟩
theorem Keep.of_below {S:Nat->Prop} {w w':World} (h:Below w.heap.size w w'):Keep S w w':=fun b _ hb=>h.block b hb
theorem Tx.keep {r:Bool} {S:Nat->Prop} {w w':World} {v:Value} {n:List ByteArray} (h:Tx r S w v n) (hk:Keep S w w'):Tx r S w' v n:=by
 obtain⟨a,cap,h1,h2,h3,h4,h5,h6,h7⟩:=h;refine⟨a,cap,h1,h2,h3,h4,h5,h6,?_⟩;rcases h7 with h7|⟨g,o,ha,hS,hc,hr⟩
 ·exact .inl h7
 ·exact .inr ⟨g,o,ha,hS,fun j hj=>hk.cell hS (hc j hj),fun hr'=>⟨(hr hr').1,hk.cell hS (hr hr').2.1,hk.cell hS (hr hr').2.2⟩⟩
theorem InL.keep_of {r:Bool} {S:Nat->Prop} {w w':World} {m:Nat} (ih:∀ (v:Value) (c:C),In r S w m v c->In r S w' m v c) {v:Value} {l:List C} (h:InL r S w m v l) (hk:Keep S w w'):InL r S w' m v l:=by
 obtain⟨a,cap,h1,h2,h3,h4,h5,h6⟩:=h;refine⟨a,cap,h1,h2,h3,h4,h5,?_⟩;rcases h6 with h6|⟨g,o,ha,hS,hc,hr⟩
 ·exact .inl h6
 ·refine .inr ⟨g,o,ha,hS,fun j hj=>?_,fun hr'=>⟨(hr hr').1,hk.six hS (hr hr').2.1,hk.six hS (hr hr').2.2⟩⟩
  obtain⟨u,hu,hi⟩:=hc j hj;exact⟨u,hk.six hS hu,ih _ _ hi⟩
theorem In.keep {r:Bool} {S:Nat->Prop} {w w':World} (hk:Keep S w w'):∀ {m:Nat} {v:Value} {c:C},In r S w m v c->In r S w' m v c:=by
 intro m;induction m with
 | zero=>intro v c h;rw[In] at h;exact h.elim
 | succ m ih=>
  intro v c h;obtain⟨k,b,i,s,n,l⟩:=c;rw[in_iff] at h ⊢;obtain⟨nv,lv,h1,h2,h3,h4,h5,h6⟩:=h;exact⟨nv,lv,h1,h2,h3,h4,h5.keep hk,h6.keep_of (fun v c=>ih) hk⟩
theorem InL.keep {r:Bool} {S:Nat->Prop} {w w':World} {m:Nat} {v:Value} {l:List C} (h:InL r S w m v l) (hk:Keep S w w'):InL r S w' m v l:=h.keep_of (fun v c h=>h.keep hk) hk
theorem Tx.below {r:Bool} {S:Nat->Prop} {w w':World} {v:Value} {n:List ByteArray} (h:Tx r S w v n) (hk:Below w.heap.size w w'):Tx r S w' v n:=h.keep (.of_below hk)
theorem In.below {r:Bool} {S:Nat->Prop} {w w':World} {m:Nat} {v:Value} {c:C} (h:In r S w m v c) (hk:Below w.heap.size w w'):In r S w' m v c:=h.keep (.of_below hk)
theorem InL.below {r:Bool} {S:Nat->Prop} {w w':World} {m:Nat} {v:Value} {l:List C} (h:InL r S w m v l) (hk:Below w.heap.size w w'):InL r S w' m v l:=h.keep (.of_below hk)
theorem Tx.weak {r:Bool} {S S':Nat->Prop} {w:World} {v:Value} {n:List ByteArray} (hS:∀ b,S b->S' b) (r':Bool) (hr:r'=true->r=true) (h:Tx r S w v n):Tx r' S' w v n:=by
 obtain⟨a,cap,h1,h2,h3,h4,h5,h6,h7⟩:=h;refine⟨a,cap,h1,h2,h3,h4,h5,h6,?_⟩;rcases h7 with ⟨h7,h8⟩|⟨g,o,ha,hg,hc,hr0⟩
 ·refine .inl ⟨h7,?_⟩
  cases r' with
  | true=>rw[hr rfl] at h8;cases h8
  | false=>rfl
 ·exact .inr ⟨g,o,ha,hS _ hg,hc,fun h=>hr0 (hr h)⟩
theorem InL.weak_of {r:Bool} {S S':Nat->Prop} {w:World} {m m':Nat} {v:Value} {l:List C} (hS:∀ b,S b->S' b) (r':Bool) (hr:r'=true->r=true) (ih:∀ (v:Value) (c:C),In r S w m v c->In r' S' w m' v c)
  (h:InL r S w m v l):InL r' S' w m' v l:=by
 obtain⟨a,cap,h1,h2,h3,h4,h5,h6⟩:=h;refine⟨a,cap,h1,h2,h3,h4,h5,?_⟩;rcases h6 with ⟨h7,h8⟩|⟨g,o,ha,hg,hc,hr0⟩
 ·refine .inl ⟨h7,?_⟩
  cases r' with
  | true=>rw[hr rfl] at h8;cases h8
  | false=>rfl
 ·refine .inr ⟨g,o,ha,hS _ hg,fun j hj=>?_,fun h=>hr0 (hr h)⟩
  obtain⟨u,hu,hi⟩:=hc j hj;exact⟨u,hu,ih _ _ hi⟩
theorem In.weak {r:Bool} {S S':Nat->Prop} {w:World} (hS:∀ b,S b->S' b) (r':Bool) (hr:r'=true->r=true):∀ {m:Nat} (m':Nat) {v:Value} {c:C},m<=m'->In r S w m v c->In r' S' w m' v c:=by
 intro m;induction m with
 | zero=>intro m' v c _ h;rw[In] at h;exact h.elim
 | succ m ih=>
  intro m' v c hm h;obtain⟨m',rfl⟩ : ∃ q,m'=q+1:=⟨m' - 1,by omega⟩;obtain⟨k,b,i,s,n,l⟩:=c;rw[in_iff] at h ⊢;obtain⟨nv,lv,h1,h2,h3,h4,h5,h6⟩:=h;exact⟨nv,lv,h1,h2,h3,h4,h5.weak hS r' hr,h6.weak_of hS r' hr (fun v c h=>ih m' (by omega) h)⟩
def All:Nat->Prop:=fun _=>True
theorem In.plain {r:Bool} {S:Nat->Prop} {w:World} {m:Nat} {v:Value} {c:C} (h:In r S w m v c):In false All w m v c:=h.weak (fun _ _=>trivial) false (fun h=>by cases h) m (Nat.le_refl _)
theorem six_box {w:World} {B:Nat} {v0 v1 v2 v3 v4 v5:Value} {t:TypeId} (h:w.heap[B]? = some (.cells #[v0,v1,v2,v3,v4,v5] t (0,0))) :
  w.cell? ⟨B,0,none⟩=some v0/\w.cell? ⟨B,1,none⟩=some v1/\w.cell? ⟨B,2,none⟩=some v2/\w.cell? ⟨B,3,none⟩=some v3/\w.cell? ⟨B,4,none⟩=some v4/\w.cell? ⟨B,5,none⟩=some v5:=by
 refine⟨?_,?_,?_,?_,?_,?_⟩ <;> simp [World.cell?, h]
theorem nx {a b c:World} (h:Below a.heap.size a b) (k:Below b.heap.size b c):Below a.heap.size a c:=h.trans (k.mono h.size)
theorem nxB {B:Nat} {a b c:World} (h:Below B a b) (hB:B<=a.heap.size) (k:Below b.heap.size b c):Below B a c:=h.trans (k.mono (by have:=h.size;omega))
theorem add_none (g o j:Nat):(⟨g,o,none⟩ : Addr).add j=⟨g,o+j,none⟩:=by
 unfold Addr.add;split
 ·simp_all
 ·rfl
theorem heap_alloc_new (w:World) (o:Obj):(w.alloc o).heap[w.heap.size]? = some o:=by
 show (w.heap.push o)[w.heap.size]? = _;simp
theorem box_at {w wr:World} {vs:Array Value} {t:TypeId} (h:Below (w.heap.size+1) (w.alloc (.cells vs t)) wr):wr.heap[w.heap.size]? = some (.cells vs t (0,0)):=
 (h.block _ (by omega)).trans (heap_alloc_new w _)
theorem below_box {w wr:World} {o:Obj} (h:Below (w.heap.size+1) (w.alloc o) wr):Below w.heap.size w wr:=((Below.refl _ w).alloc (Nat.le_refl _) o).trans (h.mono (by omega))
def LAt (r:Bool) (S:Nat->Prop) (w:World) (m:Nat) (a:Option Addr) (cap:Nat) (l:List C):Prop:=(l=[]/\r=false) \/ ∃ g o,a=some ⟨g,o,none⟩/\S g/\(∀ j (h:j<l.length),∃ u,Six w g (o+j*6) u/\In r S w m u l[j]) /\
    (r=true->l.length+2<=cap/\Six w g (o+l.length*6) room7/\Six w g (o+l.length*6+6) room7)
def NAt (r:Bool) (S:Nat->Prop) (w:World) (a:Option Addr) (cap:Nat) (n:List ByteArray):Prop:=(n=[]/\r=false) \/ ∃ g o,a=some ⟨g,o,none⟩/\S g/\(∀ j (h:j<n.length),w.cell? ⟨g,o+j,none⟩=some (.string n[j])) /\
   (r=true->n.length+2<=cap/\w.cell? ⟨g,o+n.length,none⟩=some (.string room)/\w.cell? ⟨g,o+n.length+1,none⟩=some (.string behind))
theorem InL.out {r:Bool} {S:Nat->Prop} {w:World} {m:Nat} {v:Value} {l:List C} (h:InL r S w m v l) :
  ∃ a cap,v=.slice a l.length cap/\l.length<=cap/\cap<=9223372036854775807/\l.length*88<=140737488351232/\(a=none->cap=0)/\LAt r S w m a cap l:=h
theorem Tx.out {r:Bool} {S:Nat->Prop} {w:World} {v:Value} {n:List ByteArray} (h:Tx r S w v n) :
  ∃ a cap,v=.slice a n.length cap/\n.length<=cap/\cap<=9223372036854775807/\n.length*16<=140737488351232/\(∀ t ∈ n,t.size<=140737488351232)/\(a=none->cap=0)/\NAt r S w a cap n:=h
theorem elem_at {r:Bool} {S:Nat->Prop} {w:World} {m:Nat} {a:Option Addr} {cap:Nat} {l:List C} (hL:LAt r S w m a cap l) {q:Nat} (h:q<l.length) :
  ∃ g o u,a=some ⟨g,o,none⟩/\S g/\Six w g (o+q*6) u/\In r S w m u l[q]:=by
 rcases hL with ⟨rfl,_⟩|⟨g,o,ha,hS,hc,_⟩
 ·simp at h
 ·obtain⟨u,hu,hi⟩:=hc q h
  exact⟨g,o,u,ha,hS,hu,hi⟩
theorem name_at {r:Bool} {S:Nat->Prop} {w:World} {a:Option Addr} {cap:Nat} {n:List ByteArray} (hL:NAt r S w a cap n) {q:Nat} (h:q<n.length) :
  ∃ g o,a=some ⟨g,o,none⟩/\S g/\w.cell? ⟨g,o+q,none⟩=some (.string n[q]):=by
 rcases hL with ⟨rfl,_⟩|⟨g,o,ha,hS,hc,_⟩
 ·simp at h
 ·exact⟨g,o,ha,hS,hc q h⟩
theorem six_below {w w':World} {g o:Nat} {u:Value} (h:Six w g o u) (hb:Below w.heap.size w w'):Six w' g o u:=(Keep.of_below (S:=All) hb).six trivial h
theorem below_cell {w w':World} {g o:Nat} {u:Value} (h:w.cell? ⟨g,o,none⟩=some u) (hb:Below w.heap.size w w'):w'.cell? ⟨g,o,none⟩=some u:=(Keep.of_below (S:=All) hb).cell trivial h
theorem In.six {r:Bool} {S:Nat->Prop} {w:World} {m:Nat} {v:Value} {c:C} (h:In r S w m v c) :
  ∃ v0 v1 v2 v3 v4 v5,v=.agg #[v0,v1,v2,v3,v4,v5]/\∀ u ∈ [v0,v1,v2,v3,v4,v5],u.oneCell'=true:=by
 cases m with
 | zero=>rw[In] at h;exact h.elim
 | succ m=>
  obtain⟨k,b,i,s,n,l⟩:=c;rw[in_iff] at h;obtain⟨nv,lv,rfl,-,-,-,⟨a,ca,rfl,-⟩,⟨a',ca',rfl,-⟩⟩:=h;refine⟨_,_,_,_,_,_,rfl,?_⟩;intro u hu;simp at hu
  rcases hu with rfl|rfl|rfl|rfl|rfl|rfl <;> rfl
theorem In.shape {r:Bool} {S:Nat->Prop} {w:World} {m:Nat} {v:Value} {c:C} (h:In r S w m v c) :
  ∃ m' nv lv,m=m'+1/\v=.agg #[.int .i64 c.k,.bool c.b,.int .i64 c.i,.string c.s,nv,lv] /\
   (-9223372036854775808<=c.k/\c.k<=9223372036854775807)/\(-9223372036854775808<=c.i/\c.i<=9223372036854775807)/\c.s.size<=140737488351232/\Tx r S w nv c.n/\InL r S w m' lv c.l:=by
 cases m with
 | zero=>rw[In] at h;exact h.elim
 | succ m=>
  obtain⟨k,b,i,s,n,l⟩:=c;rw[in_iff] at h;obtain⟨nv,lv,h⟩:=h;exact⟨m,nv,lv,rfl,h⟩
theorem hid {p:Prop} (h:p):Hid p:=h
theorem alB {W U:World} {o:Obj} (e:W.alloc o=U):Below W.heap.size W U:=by rw[<- e];exact (Below.refl _ W).alloc (Nat.le_refl _) _
theorem alG {W U:World} {o:Obj} (e:W.alloc o=U):U.heap[W.heap.size]? = some o:=by rw[<- e];exact heap_alloc_new W _
theorem alS {W U:World} {o:Obj} (e:W.alloc o=U):W.heap.size<U.heap.size:=by rw[<- e];simp
theorem stc3 (W:World) (B:Nat) (a0 a1 a2:Value):∃ Y,(((W.setCell ⟨B,0,none⟩ a0).setCell ⟨B,1,none⟩ a1).setCell ⟨B,2,none⟩ a2)=Y:=⟨_,rfl⟩
theorem stc4 (W:World) (B:Nat) (a0 a1 a2 a3:Value):∃ Y,((((W.setCell ⟨B,0,none⟩ a0).setCell ⟨B,1,none⟩ a1).setCell ⟨B,2,none⟩ a2).setCell ⟨B,3,none⟩ a3)=Y:=⟨_,rfl⟩
theorem stc6 (W:World) (B:Nat) (a0 a1 a2 a3 a4 a5:Value):∃ Y,((((((W.setCell ⟨B,0,none⟩ a0).setCell ⟨B,1,none⟩ a1).setCell ⟨B,2,none⟩ a2).setCell ⟨B,3,none⟩ a3).setCell ⟨B,4,none⟩ a4).setCell ⟨B,5,none⟩ a5)=Y:=⟨_,rfl⟩
theorem stc7 (W:World) (B:Nat) (a0 a1 a2 a3 a4 a5 a6:Value):∃ Y,(((((((W.setCell ⟨B,0,none⟩ a0).setCell ⟨B,1,none⟩ a1).setCell ⟨B,2,none⟩ a2).setCell ⟨B,3,none⟩ a3).setCell ⟨B,4,none⟩ a4).setCell ⟨B,5,none⟩ a5).setCell ⟨B,6,none⟩ a6)=Y:=⟨_,rfl⟩
theorem frzb {w:World} {B:Nat} {cs:Array Value} {t:TypeId} (h:w.heap[B]? = some (.cells cs t (0,0))) (j:Nat):w.frozen? ⟨B,j,none⟩=false:=by
 simp [World.frozen?, h]
theorem frz3 {W:World} {B:Nat} {cs:Array Value} {t:TypeId} (h:W.heap[B]? = some (.cells cs t (0,0))):W.frozen? ⟨B,0,none⟩=false/\W.frozen? ⟨B,1,none⟩=false/\W.frozen? ⟨B,2,none⟩=false:=⟨frzb h 0,frzb h 1,frzb h 2⟩
theorem frz4 {W:World} {B:Nat} {cs:Array Value} {t:TypeId} (h:W.heap[B]? = some (.cells cs t (0,0))):W.frozen? ⟨B,0,none⟩=false/\W.frozen? ⟨B,1,none⟩=false/\W.frozen? ⟨B,2,none⟩=false/\W.frozen? ⟨B,3,none⟩=false:=⟨frzb h 0,frzb h 1,frzb h 2,frzb h 3⟩
theorem frz6 {W:World} {B:Nat} {cs:Array Value} {t:TypeId} (h:W.heap[B]? = some (.cells cs t (0,0))):W.frozen? ⟨B,0,none⟩=false/\W.frozen? ⟨B,1,none⟩=false/\W.frozen? ⟨B,2,none⟩=false/\W.frozen? ⟨B,3,none⟩=false/\W.frozen? ⟨B,4,none⟩=false/\W.frozen? ⟨B,5,none⟩=false:=⟨frzb h 0,frzb h 1,frzb h 2,frzb h 3,frzb h 4,frzb h 5⟩
theorem frz7 {W:World} {B:Nat} {cs:Array Value} {t:TypeId} (h:W.heap[B]? = some (.cells cs t (0,0))):W.frozen? ⟨B,0,none⟩=false/\W.frozen? ⟨B,1,none⟩=false/\W.frozen? ⟨B,2,none⟩=false/\W.frozen? ⟨B,3,none⟩=false/\W.frozen? ⟨B,4,none⟩=false/\W.frozen? ⟨B,5,none⟩=false/\W.frozen? ⟨B,6,none⟩=false:=⟨frzb h 0,frzb h 1,frzb h 2,frzb h 3,frzb h 4,frzb h 5,frzb h 6⟩
end Go.Proofs.YtdolgmmldncfkaaGreatDoor.Base
namespace Go.Proofs
open Go.Shelf
def Tryz.lays170_ren:Go.Shelf.Ren:=⟨fun | 170=>112 | n=>n,fun | 70=>152 | 3=>3 | 0=>0 | 72=>155 | 37=>153 | 5=>5 | n=>n,fun | n=>n⟩
theorem Tryz.lays170:Go.Proofs.Lays.n170 prog Tryz.lays170_ren:={
 mixed:=by kernel_rfl
 f170:=func112.trans (congrArg some (by kernel_rfl))
 t0:=underlying0
 a0:=Tryz.isAgg0
 z0:=Tryz.sizeOf0
 v0:=Tryz.zeroValue0
 t3:=underlying3
 a3:=Tryz.isAgg3
 z3:=Tryz.sizeOf3
 v3:=Tryz.zeroValue3
 t37:=underlying153
 a37:=Tryz.isAgg153
 z37:=Tryz.sizeOf153
 v37:=Tryz.zeroValue153
 t70:=underlying152
 a70:=Tryz.isAgg152
 z70:=Tryz.sizeOf152
 v70:=Tryz.zeroValue152
 t72:=underlying155
 a72:=Tryz.isAgg155
 z72:=Tryz.sizeOf155
 v72:=Tryz.zeroValue155 }
open Go.RowKit in
theorem Tryz.Builder_Len (B b:Nat) (bs:List Value) (w:World) (h:Lib.IsBuilder 155 5 B b bs w) :
  Calls prog 112 #[.pointer (some ⟨b,0,none⟩)] w fun e w'=>e=.returned (.int .i64 bs.length)/\w'=w:=Any.Builder_Len Tryz.lays170 B b bs w h
def Tryz.lays169_ren:Go.Shelf.Ren:=⟨fun | 169=>114 | n=>n,fun | 70=>152 | 9=>9 | 0=>0 | 72=>155 | 37=>153 | 127=>194 | 3=>3 | 5=>5 | n=>n,fun | n=>n⟩
theorem Tryz.lays169:Go.Proofs.Lays.n169 prog Tryz.lays169_ren:={
 mixed:=by kernel_rfl
 f169:=func114.trans (congrArg some (by kernel_rfl))
 t0:=underlying0
 a0:=Tryz.isAgg0
 z0:=Tryz.sizeOf0
 v0:=Tryz.zeroValue0
 t3:=underlying3
 a3:=Tryz.isAgg3
 z3:=Tryz.sizeOf3
 v3:=Tryz.zeroValue3
 t9:=underlying9
 a9:=Tryz.isAgg9
 z9:=Tryz.sizeOf9
 v9:=Tryz.zeroValue9
 t37:=underlying153
 a37:=Tryz.isAgg153
 z37:=Tryz.sizeOf153
 v37:=Tryz.zeroValue153
 t70:=underlying152
 a70:=Tryz.isAgg152
 z70:=Tryz.sizeOf152
 v70:=Tryz.zeroValue152
 t72:=underlying155
 a72:=Tryz.isAgg155
 z72:=Tryz.sizeOf155
 v72:=Tryz.zeroValue155
 t127:=underlying194
 a127:=Tryz.isAgg194
 z127:=Tryz.sizeOf194
 v127:=Tryz.zeroValue194 }
theorem Tryz.Builder_Extra_169:Builder.Extra prog Tryz.lays169_ren:={
 sizeBuilder:=by kernel_rfl
 liesBuilder:=by kernel_rfl
 t5:=underlying5
 a5:=Tryz.isAgg5
 z5:=Tryz.sizeOf5
 v5:=Tryz.zeroValue5
 infoByte:=by kernel_rfl
 cellsByte:=by kernel_rfl
 sizeByte:=by kernel_rfl
 neB5:=by decide }
open Go.RowKit in
theorem Tryz.Builder_String_any (B b:Nat) (l:List UInt8) (w:World) (h:Lib.IsBuilder 155 5 B b (Lib.byteCells l) w) (hBw:B<=w.heap.size) :
  Calls prog 114 #[.pointer (some ⟨b,0,none⟩)] w fun e w'=>e=.returned (.string ⟨l.toArray⟩)/\Below B w w':=Any.Builder_String_any Tryz.lays169 Tryz.Builder_Extra_169 B b l w h hBw
def Tryz.lays106_ren:Go.Shelf.Ren:=⟨fun | 106=>135 | 213=>153 | 265=>166 | n=>n,fun | 9=>9 | 3=>3 | n=>n,fun | n=>n⟩
theorem Tryz.lays106:Go.Proofs.Lays.n106 prog Tryz.lays106_ren:={
 mixed:=by kernel_rfl
 f106:=func135.trans (congrArg some (by kernel_rfl))
 f213:=func153.trans (congrArg some (by kernel_rfl))
 f265:=func166.trans (congrArg some (by kernel_rfl))
 t3:=underlying3
 a3:=Tryz.isAgg3
 z3:=Tryz.sizeOf3
 v3:=Tryz.zeroValue3
 t9:=underlying9
 a9:=Tryz.isAgg9
 z9:=Tryz.sizeOf9
 v9:=Tryz.zeroValue9 }
open Go.RowKit in
theorem Tryz.strings_Compare (a b:ByteArray) (w:World) :
  Calls prog 135 #[.string a,.string b] w fun e w'=>e=.returned (.int .i64 (Lib.compareBytes a.data.toList b.data.toList))/\w'=w:=Any.strings_Compare Tryz.lays106 a b w
def Tryz.lays122_ren:Go.Shelf.Ren:=⟨fun | 122=>136 | 215=>154 | n=>n,fun | 3=>3 | 4=>4 | n=>n,fun | n=>n⟩
theorem Tryz.lays122:Go.Proofs.Lays.n122 prog Tryz.lays122_ren:={
 mixed:=by kernel_rfl
 f122:=func136.trans (congrArg some (by kernel_rfl))
 f215:=func154.trans (congrArg some (by kernel_rfl))
 t3:=underlying3
 a3:=Tryz.isAgg3
 z3:=Tryz.sizeOf3
 v3:=Tryz.zeroValue3
 t4:=underlying4
 a4:=Tryz.isAgg4
 z4:=Tryz.sizeOf4
 v4:=Tryz.zeroValue4 }
open Go.RowKit in
theorem Tryz.cmp_Compare_int (x y:Int) (w:World) :
  Calls prog 136 #[.int .i64 x,.int .i64 y] w fun e w'=>e=.returned (.int .i64 (Lib.compareInt x y))/\w'=w:=Any.cmp_Compare_int Tryz.lays122 x y w
def Tryz.laysM171_ren:Go.Shelf.Ren:=⟨fun | 171=>169 | 243=>171 | 246=>172 | 283=>173 | 284=>174 | 285=>175 | 286=>176 | 129=>178 | 317=>177 | 318=>179 | 319=>180 | 320=>181 | 337=>182 | 338=>183 | n=>n,fun | 3=>3 | 9=>9 | 2=>2 | 4=>4 | 171=>217 | 0=>0 | 53=>176 | 37=>153 | 5=>5 | 173=>220 | 212=>223 | 51=>205 | 20=>20 | 213=>224 | 46=>206 | 232=>227 | 233=>228 | n=>n,fun | 17=>1 | 18=>2 | 19=>3 | n=>n⟩
theorem Tryz.laysM171:Go.Proofs.LaysM.n171 prog Tryz.laysM171_ren:={
 mixed:=by kernel_rfl
 f129:=func178.trans (congrArg some (by kernel_rfl))
 f171:=func169.trans (congrArg some (by kernel_rfl))
 f243:=func171.trans (congrArg some (by kernel_rfl))
 f246:=func172.trans (congrArg some (by kernel_rfl))
 f283:=func173.trans (congrArg some (by kernel_rfl))
 f284:=func174.trans (congrArg some (by kernel_rfl))
 f285:=func175.trans (congrArg some (by kernel_rfl))
 f286:=func176.trans (congrArg some (by kernel_rfl))
 f317:=func177.trans (congrArg some (by kernel_rfl))
 f318:=func179.trans (congrArg some (by kernel_rfl))
 f319:=func180.trans (congrArg some (by kernel_rfl))
 f320:=func181.trans (congrArg some (by kernel_rfl))
 f337:=func182.trans (congrArg some (by kernel_rfl))
 f338:=func183.trans (congrArg some (by kernel_rfl))
 t0:=underlying0
 a0:=Tryz.isAgg0
 z0:=Tryz.sizeOf0
 v0:=Tryz.zeroValue0
 t2:=underlying2
 a2:=Tryz.isAgg2
 z2:=Tryz.sizeOf2
 v2:=Tryz.zeroValue2
 t3:=underlying3
 a3:=Tryz.isAgg3
 z3:=Tryz.sizeOf3
 v3:=Tryz.zeroValue3
 t4:=underlying4
 a4:=Tryz.isAgg4
 z4:=Tryz.sizeOf4
 v4:=Tryz.zeroValue4
 t5:=underlying5
 a5:=Tryz.isAgg5
 z5:=Tryz.sizeOf5
 v5:=Tryz.zeroValue5
 t9:=underlying9
 a9:=Tryz.isAgg9
 z9:=Tryz.sizeOf9
 v9:=Tryz.zeroValue9
 t20:=underlying20
 a20:=Tryz.isAgg20
 z20:=Tryz.sizeOf20
 v20:=Tryz.zeroValue20
 t37:=underlying153
 a37:=Tryz.isAgg153
 z37:=Tryz.sizeOf153
 v37:=Tryz.zeroValue153
 t46:=underlying206
 a46:=Tryz.isAgg206
 z46:=Tryz.sizeOf206
 v46:=Tryz.zeroValue206
 t51:=underlying205
 a51:=Tryz.isAgg205
 z51:=Tryz.sizeOf205
 v51:=Tryz.zeroValue205
 t53:=underlying176
 a53:=Tryz.isAgg176
 z53:=Tryz.sizeOf176
 v53:=Tryz.zeroValue176
 t171:=underlying217
 a171:=Tryz.isAgg217
 z171:=Tryz.sizeOf217
 v171:=Tryz.zeroValue217
 t173:=underlying220
 a173:=Tryz.isAgg220
 z173:=Tryz.sizeOf220
 v173:=Tryz.zeroValue220
 t212:=underlying223
 a212:=Tryz.isAgg223
 z212:=Tryz.sizeOf223
 v212:=Tryz.zeroValue223
 t213:=underlying224
 a213:=Tryz.isAgg224
 z213:=Tryz.sizeOf224
 t232:=underlying227
 a232:=Tryz.isAgg227
 z232:=Tryz.sizeOf227
 v232:=Tryz.zeroValue227
 t233:=underlying228
 a233:=Tryz.isAgg228
 z233:=Tryz.sizeOf228
 v233:=Tryz.zeroValue228
 g17:=by kernel_rfl
 g18:=by kernel_rfl
 g19:=by kernel_rfl
 i0:=by kernel_rfl
 i2:=by kernel_rfl
 i3:=by kernel_rfl
 i4:=by kernel_rfl
 i5:=by kernel_rfl
 i9:=by kernel_rfl
 i20:=by kernel_rfl
 i37:=by kernel_rfl
 i46:=by kernel_rfl
 i51:=by kernel_rfl
 i53:=by kernel_rfl
 i171:=by kernel_rfl
 i173:=by kernel_rfl
 i212:=by kernel_rfl
 i232:=by kernel_rfl
 i233:=by kernel_rfl
 m17:=by kernel_rfl
 m18:=by kernel_rfl
 m19:=by kernel_rfl }
open Go.RowKit Go.Sort Go.Lib in
theorem Tryz.strconv_Itoa (n : Int) (h0 : -9223372036854775808 <= n) (h1 : n <= 9223372036854775807) (w : World) (htab : Lib.TabIs prog w "internal/strconv.uint64pow10" .u64 Lib.pow10Tab) :
  Calls prog 169 #[.int .i64 n] w fun e w'=>e=.returned (.string ⟨(Lib.itoa n).toArray⟩)/\∃ k os,w'=grow (w.drewN k) os:=Any.strconv_Itoa Tryz.laysM171 n h0 h1 w htab
def Tryz.lays264_ren:Go.Shelf.Ren:=⟨fun | 264=>131 | n=>n,fun | 53=>176 | 46=>206 | n=>n,fun | n=>n⟩
theorem Tryz.lays264:Go.Proofs.Lays.n264 prog Tryz.lays264_ren:={
 mixed:=by kernel_rfl
 f264:=func131.trans (congrArg some (by kernel_rfl))
 t46:=underlying206
 a46:=Tryz.isAgg206
 z46:=Tryz.sizeOf206
 v46:=Tryz.zeroValue206
 t53:=underlying176
 a53:=Tryz.isAgg176
 z53:=Tryz.sizeOf176
 v53:=Tryz.zeroValue176 }
open Go.RowKit Go.Lib in
theorem Tryz.bits_Mul64 (x y:Nat) (hx:x<18446744073709551616) (hy:y<18446744073709551616) (w:World) :
  Calls prog 131 #[.int .u64 x,.int .u64 y] w fun e w'=>e=.returned (.tuple #[.int .u64 ((x*y / 18446744073709551616:Nat):Int),.int .u64 ((x*y % 18446744073709551616:Nat):Int)])/\w'=w:=Any.bits_Mul64 Tryz.lays264 x y hx hy w
end Go.Proofs
namespace Go.Proofs.YtdolgmmldncfkaaGreatDoor.Digits
open Go.ChangeShapes Go.WideShapes Go.ChangeAt Go.RowKit
def Tab (w : World) : Prop := Lib.TabIs prog w "internal/strconv.uint64pow10" .u64 Lib.pow10Tab
theorem gPow : ∃ g, prog.globalNamed "internal/strconv.uint64pow10" = some g := ⟨1, by kernel_rfl⟩
theorem Tab.later {w w':World} (h:Tab w) (hb:Below w.heap.size w w'):Tab w':=by
 obtain⟨g,hg⟩:=gPow;unfold Tab Lib.TabIs at h ⊢;unfold World.var? at h ⊢;rw[hg] at h ⊢;simp only [Option.bind_some] at h ⊢;have hlt:g<w.heap.size:=by
  rcases Nat.lt_or_ge g w.heap.size with h'|h'
  ·exact h'
  ·rw[Array.getElem?_eq_none h'] at h;cases h
 rw[hb.block g hlt];exact h
theorem below_grow (w:World) (k:Nat) (os:Array Obj):Below w.heap.size w (Sort.grow (w.drewN k) os):=by
 refine⟨rfl,rfl,rfl,?_,fun j hj=>?_⟩
 ·show w.heap.size<=(w.heap ++ os).size
  rw[Array.size_append];omega
 ·show (w.heap ++ os)[j]? = w.heap[j]?
  rw[Array.getElem?_append_left hj]
theorem text (n:Int) (h0 : -9223372036854775808<=n) (h1:n<=9223372036854775807) (w:World) (ht:Tab w) :
  Calls prog 161 #[.int .i64 n] w fun e w'=>e=.returned (.string ⟨(Lib.itoa n).toArray⟩)/\Below w.heap.size w w':=by
 have H:=Tryz.strconv_Itoa n h0 h1 w ht;clear ht;go_enter func161,ntmps161;go_wp2_with (first | (go_at_call 169;refine H.mono ?_;rintro e w' ⟨rfl,k,os,rfl⟩))
 go_ret
 exact⟨rfl,below_grow _ _ _⟩
end Go.Proofs.YtdolgmmldncfkaaGreatDoor.Digits

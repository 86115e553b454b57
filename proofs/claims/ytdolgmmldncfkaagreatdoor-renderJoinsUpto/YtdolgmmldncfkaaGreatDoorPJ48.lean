import Derived.BigQuiet
import Derived.Deep.QuietTactic
import Derived.Laws.AppendOwnNone
import Derived.Laws.Cover1
import Derived.Test.YtdolgmmldncfkaaGreatDoorPJ08
import Derived.Test.YtdolgmmldncfkaaGreatDoorPJ19
import Derived.Test.YtdolgmmldncfkaaGreatDoorPJ40
import Derived.Test.YtdolgmmldncfkaaGreatDoorPJ47
open Go.Proofs.Tryz
set_option linter.unusedVariables false
set_option maxRecDepth 20000
set_option maxHeartbeats 3200000
namespace Go.Proofs.YtdolgmmldncfkaaGreatDoor.TRowJ
open Go.RowKit TBase TCopy
theorem copyO_of (m:Nat) (hm:Copies m) (v:Value) (l:List T) (w:World) (h:InL false All w m v l) :
  Calls prog 11 #[v] w fun e w'=>∃ u us,e=.returned u/\OwnV w' w.heap.size u us/\us.length=l.length/\Hid (∀ j (h:j<us.length) (h':j<l.length),In false (El w.heap.size w'.heap.size u) w' m us[j] l[j])/\Below w.heap.size w w':=by
 obtain⟨i0,hi,hz0,hz1,hz2⟩:=info_parts infoT;obtain⟨a,cap,rfl,hlc,hcm,hlen,hnil,hL⟩:=h;go_enter func11,ntmps11;go_wp2_with fail
 go_loopw [3,4] (fun out i wr=>∃ (q:Nat) (us:List Value),q<=l.length/\us.length=q/\i=.int .i64 q/\OwnV wr w.heap.size out us /\
   (∀ j (h:j<us.length) (h':j<l.length),In false (El w.heap.size wr.heap.size out) wr m us[j] l[j])/\Below w.heap.size w wr) (fun _ i _=>l.length - (intOf i).toNat)
 case atStart=>exact⟨0,[],by omega,rfl,rfl,⟨World.ownsRow_nil _ _ _ _,fun x hx=>by cases hx⟩,fun j h=>by simp at h,Below.refl _ _⟩
 case round=>
  obtain⟨q,us,hq,hus,rfl,hown,hels,hb⟩:=hrel;have hsz:=hb.size;by_cases hlt:q<l.length
  ·obtain⟨g,o,u,rfl,-,hu,hin⟩:=elem_at hL hlt
   have hu:=four_below hu hb;have hin:=hin.below hb;obtain⟨v0,v1,v2,v3,rfl,d0,d1,d2,d3⟩:=hu;have c10:=hm _ _ wr hin
   have HH:Hid (∀ j (h:j<us.length) (h':j<l.length),In false (El w.heap.size wr.heap.size u3) wr m us[j] l[j]):=hels;have Hus:Hid (us.length=q):=hus;have Hown:Hid (OwnV wr w.heap.size u3 us):=hown;have hrow:=hown.1;have hlen2:us.length=q:=hus;clear hels hin hus hown;go_wp2_with (first
    | (go_at_call 22;refine c10.mono ?_;rintro e w1 ⟨u,rfl,hin1,b1⟩;obtain⟨x0,x1,x2,x3,rfl,hone⟩:=hin1.four;have hrow1:=World.ownsRow.alloc (own_below hrow b1) (.cells #[x0,x1,x2,x3] 47);have hs1:=b1.size)
    | (at_builtin;refine wpList_append_own_at _ rfl _ _ 30 rfl w.heap.size 47 i0 (.agg #[.string ⟨#[]⟩,.string ⟨#[]⟩,.slice none 0 0,.slice none 0 0]) 4 80 underlying30 hi hz0 hz1 hz2 rfl (by decide) _ _ _ rfl hrow1 ⟨w1.heap.size,0,none⟩ 1 1 [x0,x1,x2,x3] rfl rfl (new_cells w1 _ 47) hone (by unfold maxLen;omega) (by omega) (by simp;omega) ?_))
   intro v' w2 hown' hgrow _ hat;have hels2:=els_step HH.out Hus.out hlt Hown.out b1 hin1 hsz _ hgrow hat;have hb3:=((hb.trans (b1.mono hsz)).alloc (by omega) (.cells #[x0,x1,x2,x3] 47)).grown hgrow (by simp;omega) (fun k hk=>(World.ownsRow.lt hrow k hk).1);have ho2:OwnV w2 w.heap.size v' (us ++ [.agg #[x0,x1,x2,x3]]):=by
    refine⟨?_,fours_snoc Hown.out.2 ⟨_,_,_,_,rfl,hone⟩⟩;rw[flat_append,List.length_append,hlen2];exact hown'
   have hlen3:(us ++ [Value.agg #[x0,x1,x2,x3]]).length=q+1:=by simp [hlen2]
   obtain⟨us2,hus2⟩ : ∃ us2,us ++ [Value.agg #[x0,x1,x2,x3]]=us2:=⟨_,rfl⟩;rw[hus2] at hels2 ho2 hlen3;have H2:Hid (∀ j (h:j<us2.length) (h':j<l.length),In false (El w.heap.size w2.heap.size v') w2 m us2[j] l[j]):=fun j h h'=>hels2 j h h'
   clear hown' hgrow hat hrow hrow1 Hown HH Hus hels2 hus2 hin1 hone c10;go_wp2_with fail
   go_roundw
   case rel=>exact⟨q+1,us2,by omega,hlen3,by go_num,ho2,H2.out,hb3⟩
   case measure=>simp only [intOf];omega
  ·obtain rfl:q=l.length:=by omega
   have hnlt:decide ((l.length:Int)<(l.length:Int))=false:=by simp
   have HH:Hid (∀ j (h:j<us.length) (h':j<l.length),In false (El w.heap.size wr.heap.size u3) wr m us[j] l[j]):=hels;have Hown:Hid (OwnV wr w.heap.size u3 us):=hown;have Hus:Hid (us.length=l.length):=hus;clear hels hus hown;go_wp2_with fail
   go_ret
   exact⟨_,us,rfl,Hown.out,Hus.out,HH,hb⟩
theorem copyO_c (m:Nat) (v:Value) (l:List T) (w:World) (h:InL false All w m v l) :
  Calls prog 11 #[v] w fun e w'=>∃ u us,e=.returned u/\OwnV w' w.heap.size u us/\us.length=l.length/\Hid (∀ j (h:j<us.length) (h':j<l.length),In false (El w.heap.size w'.heap.size u) w' m us[j] l[j])/\Below w.heap.size w w':=
 copyO_of m (copyTAll m) v l w h
theorem inL_of_own {w:World} {B m:Nat} {v:Value} {us:List Value} {l:List T} (h:OwnV w B v us) (hl:us.length=l.length) (hb:l.length*80<=140737488351232) (hel:∀ j (h:j<us.length) (h':j<l.length),In false All w m us[j] l[j]):InL false All w m v l:=by
 rcases h.1.2 with ⟨h0,h1⟩|⟨g,cap,cur,hv,_,_,hn,hm,_⟩
 ·obtain rfl:l=[]:=List.eq_nil_of_length_eq_zero (by omega)
  exact⟨none,0,h0,by simp,by simp,by simp,fun _=>rfl,.inl ⟨rfl,rfl⟩⟩
 ·subst hv
  refine⟨some ⟨g,0,none⟩,cap,by rw[hl],by omega,hm,hb,(fun h=>by cases h),.inr ⟨g,0,rfl,trivial,fun j hj=>?_,fun h=>by cases h⟩⟩;exact⟨_,ownV_four h j (by omega),hel j (by omega) hj⟩
theorem fours_append {a b:List Value} (h:Fours a) (k:Fours b):Fours (a ++ b):=by
 intro x hx;rcases List.mem_append.1 hx with hx|hx
 ·exact h x hx
 ·exact k x hx
theorem flat_one {us:List Value} (h:Fours us):∀ u ∈ flat us,u.oneCell'=true:=by
 intro u hu;obtain⟨x,hx,hu⟩:=List.mem_flatMap.1 hu;obtain⟨v0,v1,v2,v3,rfl,ho⟩:=h x hx;exact ho u (by simpa [Value.cells] using hu)
theorem joined {w w1 w2 w3:World} {m:Nat} {u1 u2 v':Value} {us1 us2:List Value} {L M:List T} (h1:OwnV w1 w.heap.size u1 us1) (e1:us1.length=L.length) (k1:∀ j (h:j<us1.length) (h':j<L.length),In false (El w.heap.size w1.heap.size u1) w1 m us1[j] L[j])
  (b2:Below w1.heap.size w1 w2) (h2:OwnV w2 w1.heap.size u2 us2) (e2:us2.length=M.length) (k2:∀ j (h:j<us2.length) (h':j<M.length),In false (El w1.heap.size w2.heap.size u2) w2 m us2[j] M[j])
  (hown:w3.ownsRow w.heap.size 47 4 v' (us1.length+us2.length) (flat us1 ++ flat us2)) (hgrow:w2.grownBy w3 u1.ownBlock) (hb:(L ++ M).length*80<=140737488351232):InL false All w3 m v' (L ++ M):=by
 have hlt:=World.ownsRow.lt h1.1;have hs2:=b2.size;refine inL_of_own (B:=w.heap.size) (us:=us1 ++ us2) ⟨?_,fours_append h1.2 h2.2⟩ (by simp [e1, e2]) hb ?_
 ·rw[flat_append,List.length_append]
  exact hown
 ·intro j hj hj'
  by_cases h:j<us1.length
  ·rw[List.getElem_append_left h,List.getElem_append_left (by omega)]
   refine (((k1 j h (by omega)).keep (w':=w3) ?_).plain);intro b hS hb;rw[hgrow.block b (by omega) (fun e=>hS.2.2 e.symm),b2.block b hb]
  ·have hj2:j<us1.length+us2.length:=by simpa using hj
   rw[List.getElem_append_right (by omega),List.getElem_append_right (by omega)];have key:=(k2 (j - us1.length) (by omega) (by omega)).keep (w':=w3) (by
    intro b hS hb;exact hgrow.block b hb (fun e=>by have:=(hlt b e.symm).2;have:=hS.1;omega))
   simpa [e1] using key.plain
end Go.Proofs.YtdolgmmldncfkaaGreatDoor.TRowJ
namespace Go.Proofs.YtdolgmmldncfkaaGreatDoor.TPure
open Go.RowKit
def lt (a b:ByteArray):Bool:=Op.bytesLess a.toList b.toList
def eqB (a b:ByteArray):Bool:=a.toList == b.toList
theorem less_irrefl:∀ (x:List UInt8),Op.bytesLess x x=false
 | []=>rfl
 | a :: x=>by simp [Op.bytesLess, less_irrefl x]
theorem list_eq (a:ByteArray):a.toList=a.data.toList:=by
 rw[ByteArray.toList_eq]
theorem eqB_eq {a b:ByteArray}:eqB a b=true ↔ a=b:=by
 unfold eqB;constructor
 ·intro h
  have h:=eq_of_beq h;rw[list_eq,list_eq] at h;exact ByteArray.ext (Array.toList_inj.1 h)
 ·rintro rfl
  simp
def cmpB (a b:ByteArray):Int:=if lt a b=true then -1 else if eqB a b=true then 0 else 1
theorem nan_c (a:ByteArray) (w:World):Calls prog 81 #[.string a] w fun r w'=>r=.returned (.bool false)/\w'=w:=by
 go_enter func81,ntmps81;go_wp2_with fail
 go_ret
 exact⟨rfl,rfl⟩
theorem cmp_c (a b:ByteArray) (w:World):Calls prog 58 #[.string a,.string b] w fun r w'=>r=.returned (.int .i64 (cmpB a b))/\w'=w:=by
 have c1:=nan_c a w;have c2:=nan_c b w;cases h1:Op.bytesLess a.toList b.toList with
 | true=>
  have e:cmpB a b = -1:=by simp [cmpB, lt, h1]
  rw[e];go_enter func58,ntmps58;go_wp2_with (first | (go_at_call 81;first | (refine c1.mono ?_;rintro e w' ⟨rfl,rfl⟩) | (refine c2.mono ?_;rintro e w' ⟨rfl,rfl⟩)))
  go_ret
  exact⟨rfl,rfl⟩
 | false=>
  cases h2:(a.toList == b.toList) with
  | true=>
   have e:cmpB a b=0:=by simp only [cmpB, lt, eqB, h1, h2];rfl
   rw[e];go_enter func58,ntmps58;go_wp2_with (first | (go_at_call 81;first | (refine c1.mono ?_;rintro e w' ⟨rfl,rfl⟩) | (refine c2.mono ?_;rintro e w' ⟨rfl,rfl⟩)))
   go_ret
   exact⟨rfl,rfl⟩
  | false=>
   have e:cmpB a b=1:=by simp only [cmpB, lt, eqB, h1, h2];rfl
   rw[e];go_enter func58,ntmps58;go_wp2_with (first | (go_at_call 81;first | (refine c1.mono ?_;rintro e w' ⟨rfl,rfl⟩) | (refine c2.mono ?_;rintro e w' ⟨rfl,rfl⟩)))
   go_ret
   exact⟨rfl,rfl⟩
theorem cmpB_zero (a b:ByteArray):(cmpB a b == 0)=eqB a b:=by
 unfold cmpB;cases h:eqB a b with
 | true=>
  have:lt a b=false:=by
   rw[eqB_eq.1 h];exact less_irrefl _
  rw[this];rfl
 | false=>
  cases lt a b <;> rfl
end Go.Proofs.YtdolgmmldncfkaaGreatDoor.TPure
namespace Go.Proofs.YtdolgmmldncfkaaGreatDoor.TMay
open Go.RowKit
theorem bx {w:World} {o:Obj}:Below w.heap.size w (w.alloc o):=(Below.refl _ _).alloc (Nat.le_refl _) _
end Go.Proofs.YtdolgmmldncfkaaGreatDoor.TMay
namespace Go.Proofs.YtdolgmmldncfkaaGreatDoor.TSame
open Go.RowKit TBase TPure TMay
def ea (x y:ByteArray × ByteArray):Bool:=eqB x.1 y.1 && eqB x.2 y.2
def sa:List (ByteArray × ByteArray)->List (ByteArray × ByteArray)->Bool
 | [],[]=>true
 | x :: L,y :: M=>ea x y && sa L M
 | _,_=>false
def sm:List T->List T->Bool
 | [],[]=>true
 | .mk g s n l :: cs,.mk g' s' n' l' :: ds=>(eqB g g' && (eqB s s' && (sa n n' && sm l l'))) && sm cs ds
 | _,_=>false
def s1 (c d:T):Bool:=eqB c.g d.g && (eqB c.s d.s && (sa c.n d.n && sm c.l d.l))
theorem sm_cons (c d:T) (cs ds:List T):sm (c :: cs) (d :: ds)=(s1 c d && sm cs ds):=by
 obtain⟨g,s,n,l⟩:=c;obtain⟨g',s',n',l'⟩:=d;rw[sm];rfl
theorem sm_nil:sm [] []=true:=by rw[sm]
theorem sa_iff {L M:List (ByteArray × ByteArray)} (h:L.length=M.length):sa L M=true ↔ ∀ j (h1:j<L.length) (h2:j<M.length),ea L[j] M[j]=true:=by
 induction L generalizing M with
 | nil=>
  cases M with
  | nil=>simp [sa]
  | cons y M=>simp at h
 | cons x L ih=>
  cases M with
  | nil=>simp at h
  | cons y M=>
   rw[sa,Bool.and_eq_true,ih (by simpa using h)];constructor
   ·rintro⟨h1,h2⟩ j hj hk
    cases j with
    | zero=>exact h1
    | succ j=>exact h2 j (by simpa using hj) (by simpa using hk)
   ·intro H
    exact⟨H 0 (by simp) (by simp),fun j hj hk=>H (j+1) (by simpa using hj) (by simpa using hk)⟩
theorem sa_len {L M:List (ByteArray × ByteArray)} (h:L.length≠M.length):sa L M=false:=by
 induction L generalizing M with
 | nil=>
  cases M with
  | nil=>simp at h
  | cons y M=>rfl
 | cons x L ih=>
  cases M with
  | nil=>rfl
  | cons y M=>
   rw[sa,ih (by simpa using h)];simp
theorem sm_iff {L M:List T} (h:L.length=M.length):sm L M=true ↔ ∀ j (h1:j<L.length) (h2:j<M.length),s1 L[j] M[j]=true:=by
 induction L generalizing M with
 | nil=>
  cases M with
  | nil=>simp [sm]
  | cons y M=>simp at h
 | cons x L ih=>
  cases M with
  | nil=>simp at h
  | cons y M=>
   rw[sm_cons,Bool.and_eq_true,ih (by simpa using h)];constructor
   ·rintro⟨h1,h2⟩ j hj hk
    cases j with
    | zero=>exact h1
    | succ j=>exact h2 j (by simpa using hj) (by simpa using hk)
   ·intro H
    exact⟨H 0 (by simp) (by simp),fun j hj hk=>H (j+1) (by simpa using hj) (by simpa using hk)⟩
theorem sm_len {L M:List T} (h:L.length≠M.length):sm L M=false:=by
 induction L generalizing M with
 | nil=>
  cases M with
  | nil=>simp at h
  | cons y M=>obtain⟨g,s,n,l⟩:=y;simp [sm]
 | cons x L ih=>
  cases M with
  | nil=>obtain⟨g,s,n,l⟩:=x;simp [sm]
  | cons y M=>
   rw[sm_cons,ih (by simpa using h)];simp
theorem sameA_c (x y:ByteArray × ByteArray) (w:World) :
  Calls prog 40 #[.agg #[.string x.1,.string x.2],.agg #[.string y.1,.string y.2]] w fun r w'=>r=.returned (.bool (ea x y))/\Below w.heap.size w w':=by
 obtain⟨x1,x2⟩:=x;obtain⟨y1,y2⟩:=y;have c1:=fun w=>cmp_c x1 y1 w
 have c2:=fun w=>cmp_c x2 y2 w
 have h1:=cmpB_zero x1 y1;have h2:=cmpB_zero x2 y2;unfold ea;simp only;generalize cmpB x1 y1=r1 at *
 generalize cmpB x2 y2=r2 at *
 generalize eqB x1 y1=b1 at *
 generalize eqB x2 y2=b2 at *
 have b0:Below w.heap.size w ((w.alloc (.cells #[.string x1,.string x2] 89)).alloc (.cells #[.string y1,.string y2] 89)):=bx.alloc (by simp) _;cases b1 with
 | false=>
  go_enter func40,ntmps40;go_wp2_with (first | (go_at_call 58;refine (c1 _).mono ?_;rintro e w' ⟨rfl,rfl⟩))
  go_ret
  exact⟨rfl,b0⟩
 | true=>
  go_enter func40,ntmps40;go_wp2_with fail
  refine (c1 _).mono ?_;rintro e w' ⟨rfl,rfl⟩;go_wp2_with fail
  refine (c2 _).mono ?_;rintro e w' ⟨rfl,rfl⟩;go_wp2_with fail
  go_ret
  exact⟨by simp,b0⟩
theorem eqAttrs_c (u v:Value) (L M:List (ByteArray × ByteArray)) (w:World) (hu:Ax false All w u L) (hv:Ax false All w v M) :
  Calls prog 39 #[u,v,.func (.func 40) #[] #[]] w fun r w'=>r=.returned (.bool (sa L M))/\Below w.heap.size w w':=by
 obtain⟨a,cap,rfl,hlc,hm,hlen,hsz,hnil,hN⟩:=hu;obtain⟨a',cap',rfl,hlc',hm',hlen',hsz',hnil',hN'⟩:=hv;by_cases hl:L.length=M.length
 ·have HI:=sa_iff hl
  generalize sa L M=R at *
  have HH:Hid (R=true ↔ ∀ j (h1:j<L.length) (h2:j<M.length),ea L[j] M[j]=true):=HI;have Hl:Hid (L.length=M.length):=hl;rw[<- hl];rw[<- hl] at hlc' hlen';clear HI hsz hsz' hl;go_enter func39,ntmps39;go_wp2_with fail
  go_loopw [17] (fun i wr=>∃ q:Nat,q<=L.length/\i=.int .i64 q/\(∀ j (h1:j<L.length) (h2:j<M.length),j<q->ea L[j] M[j]=true)/\Below w.heap.size w wr) (fun i _=>L.length - (intOf i).toNat)
  case atStart=>exact⟨0,by omega,rfl,fun j _ _ h=>by omega,Below.refl _ _⟩
  case round=>
   obtain⟨q,hq,rfl,hall,hb⟩:=hrel;have HA:Hid (∀ j (h1:j<L.length) (h2:j<M.length),j<q->ea L[j] M[j]=true):=hall;clear hall;by_cases hlt:q<L.length
   ·have hlt2:q<M.length:=by have:=Hl.out;omega
    obtain⟨g,o,rfl,-,hc,hd⟩:=attr_at hN hlt;obtain⟨g',o',rfl,-,hc',hd'⟩:=attr_at hN' hlt2;have hc:=below_cell hc hb;have hc':=below_cell hc' hb;have hd:=below_cell hd hb;have hd':=below_cell hd' hb;have b0:Below wr.heap.size wr ((wr.alloc (.cells #[.string L[q].1,.string L[q].2] 89)).alloc (.cells #[.string M[q].1,.string M[q].2] 89)):=bx.alloc (by simp) _;have e0:=two_below (show Two wr g' (o'+q*2) M[q] from ⟨hc',hd'⟩) (bx (o:=.cells #[.string L[q].1,.string L[q].2] 89));obtain⟨e0,e1⟩:=e0;have c50:=sameA_c L[q] M[q] ((wr.alloc (.cells #[.string L[q].1,.string L[q].2] 89)).alloc (.cells #[.string M[q].1,.string M[q].2] 89));obtain⟨r,hr⟩ : ∃ r,ea L[q] M[q]=r:=⟨_,rfl⟩;rw[hr] at c50;have Hr:Hid (ea L[q] M[q]=r):=hr;clear hr;cases r with
    | true=>
     go_wp2_with fail
     refine c50.mono ?_;rintro e w2 ⟨rfl,b2⟩;go_wp2_with fail
     go_roundw
     case rel=>
      refine⟨q+1,by omega,by go_num,fun j h1 h2 hj=>?_,nx (nx hb b0) b2⟩;by_cases e:j=q
      ·subst e
       exact Hr.out
      ·exact HA.out j h1 h2 (by omega)
     case measure=>simp only [intOf];omega
    | false=>
     have hR:R=false:=by
      cases R with
      | false=>rfl
      | true=>
       have:=HH.out.1 rfl q hlt hlt2;rw[Hr.out] at this;cases this
     subst hR;clear HH;go_wp2_with fail
     refine c50.mono ?_;rintro e w2 ⟨rfl,b2⟩;go_wp2_with fail
     go_ret
     exact⟨rfl,nx (nx hb b0) b2⟩
   ·have hlt':decide ((q:Int)<(L.length:Int))=false:=by simp;omega
    have hR:R=true:=HH.out.2 fun j h1 h2=>HA.out j h1 h2 (by omega)
    subst hR;clear HH;go_wp2_with fail
    go_ret
    exact⟨rfl,hb⟩
 ·rw[sa_len hl]
  have hne:((L.length:Int) == (M.length:Int))=false:=by simp;omega
  clear hN hN' hsz hsz';generalize L.length=n1 at *
  generalize M.length=n2 at *
  go_enter func39,ntmps39;go_wp2_with fail
  go_ret
  exact⟨rfl,Below.refl _ _⟩
def Sames (m:Nat):Prop:=∀ (u v:Value) (c d:T) (w:World),In false All w m u c->In false All w m v d ->
  Calls prog 21 #[u,v] w fun e w'=>e=.returned (.bool (s1 c d))/\Below w.heap.size w w'
theorem eqTrees_of (m:Nat) (hm:Sames m) (u v:Value) (L M:List T) (w:World) (hu:InL false All w m u L) (hv:InL false All w m v M) :
  Calls prog 20 #[u,v,.func (.func 21) #[] #[]] w fun r w'=>r=.returned (.bool (sm L M))/\Below w.heap.size w w':=by
 obtain⟨a,cap,rfl,hlc,hcm,hlen,hnil,hN⟩:=hu;obtain⟨a',cap',rfl,hlc',hcm',hlen',hnil',hN'⟩:=hv;have Hm:Hid (Sames m):=hm;clear hm;by_cases hl:L.length=M.length
 ·have HI:=sm_iff hl
  generalize sm L M=R at *
  have HH:Hid (R=true ↔ ∀ j (h1:j<L.length) (h2:j<M.length),s1 L[j] M[j]=true):=HI;have Hl:Hid (L.length=M.length):=hl;rw[<- hl];rw[<- hl] at hlc' hlen';clear HI hl;go_enter func20,ntmps20;go_wp2_with fail
  go_loopw [17] (fun i wr=>∃ q:Nat,q<=L.length/\i=.int .i64 q/\(∀ j (h1:j<L.length) (h2:j<M.length),j<q->s1 L[j] M[j]=true)/\Below w.heap.size w wr) (fun i _=>L.length - (intOf i).toNat)
  case atStart=>exact⟨0,by omega,rfl,fun j _ _ h=>by omega,Below.refl _ _⟩
  case round=>
   obtain⟨q,hq,rfl,hall,hb⟩:=hrel;have HA:Hid (∀ j (h1:j<L.length) (h2:j<M.length),j<q->s1 L[j] M[j]=true):=hall;clear hall;by_cases hlt:q<L.length
   ·have hlt2:q<M.length:=by have:=Hl.out;omega
    obtain⟨g,o,x,rfl,-,hx,hin⟩:=elem_at hN hlt;obtain⟨g',o',y,rfl,-,hy,hin'⟩:=elem_at hN' hlt2;have hx:=four_below hx hb;have hy:=four_below hy hb;have hin:=hin.below hb;have hin':=hin'.below hb;obtain⟨x0,x1,x2,x3,rfl,d0,d1,d2,d3⟩:=hx;obtain⟨y0,y1,y2,y3,rfl,e0,e1,e2,e3⟩:=hy;obtain⟨m1,p1,p2,p3,p4,-,rfl,rfl,rfl,rfl,-,-,-,-⟩:=hin.kinds;obtain⟨m2,q1,q2,q3,q4,-,rfl,rfl,rfl,rfl,-,-,-,-⟩:=hin'.kinds;obtain⟨O1,hO1⟩ : ∃ O1,Obj.cells #[.string L[q].g,.string L[q].s,.slice p1 L[q].n.length p2,.slice p3 L[q].l.length p4] 47=O1:=⟨_,rfl⟩;have b1:Below wr.heap.size wr (wr.alloc (.cells #[.string L[q].g,.string L[q].s,.slice p1 L[q].n.length p2,.slice p3 L[q].l.length p4] 47)):=bx;have b0:Below wr.heap.size wr ((wr.alloc (.cells #[.string L[q].g,.string L[q].s,.slice p1 L[q].n.length p2,.slice p3 L[q].l.length p4] 47)).alloc (.cells #[.string M[q].g,.string M[q].s,.slice q1 M[q].n.length q2,.slice q3 M[q].l.length q4] 47)):=bx.alloc (by simp) _
    have e0:=below_cell e0 b1;have e1:=below_cell e1 b1;have e2:=below_cell e2 b1;have e3:=below_cell e3 b1;have c50:=Hm.out _ _ L[q] M[q] _ (hin.below b0) (hin'.below b0);clear hin hin' hO1 O1;obtain⟨r,hr⟩ : ∃ r,s1 L[q] M[q]=r:=⟨_,rfl⟩;rw[hr] at c50;have Hr:Hid (s1 L[q] M[q]=r):=hr;clear hr;cases r with
    | true=>
     go_wp2_with fail
     refine c50.mono ?_;rintro e w2 ⟨rfl,b2⟩;go_wp2_with fail
     go_roundw
     case rel=>
      refine⟨q+1,by omega,by go_num,fun j h1 h2 hj=>?_,nx (nx hb b0) b2⟩;by_cases e:j=q
      ·subst e
       exact Hr.out
      ·exact HA.out j h1 h2 (by omega)
     case measure=>simp only [intOf];omega
    | false=>
     have hR:R=false:=by
      cases R with
      | false=>rfl
      | true=>
       have:=HH.out.1 rfl q hlt hlt2;rw[Hr.out] at this;cases this
     subst hR;clear HH;go_wp2_with fail
     refine c50.mono ?_;rintro e w2 ⟨rfl,b2⟩;go_wp2_with fail
     go_ret
     exact⟨rfl,nx (nx hb b0) b2⟩
   ·have hlt':decide ((q:Int)<(L.length:Int))=false:=by simp;omega
    have hR:R=true:=HH.out.2 fun j h1 h2=>HA.out j h1 h2 (by omega)
    subst hR;clear HH;go_wp2_with fail
    go_ret
    exact⟨rfl,hb⟩
 ·rw[sm_len hl]
  have hne:((L.length:Int) == (M.length:Int))=false:=by simp;omega
  clear hN hN' Hm;generalize L.length=n1 at *
  generalize M.length=n2 at *
  go_enter func20,ntmps20;go_wp2_with fail
  go_ret
  exact⟨rfl,Below.refl _ _⟩
theorem same_of (m:Nat) (hm:Sames m) (u v:Value) (L M:List T) (w:World) (hu:InL false All w m u L) (hv:InL false All w m v M) :
  Calls prog 10 #[u,v] w fun r w'=>r=.returned (.bool (sm L M))/\Below w.heap.size w w':=by
 have c35:=eqTrees_of m hm u v L M w hu hv;obtain⟨a,cap,rfl,-⟩:=hu;obtain⟨a',cap',rfl,-⟩:=hv;generalize L.length=n1 at *
 generalize M.length=n2 at *
 generalize sm L M=R at *
 go_enter func10,ntmps10;go_wp2_with fail
 refine c35.mono ?_;rintro e w1 ⟨rfl,b1⟩;go_wp2_with fail
 go_ret
 exact⟨rfl,b1⟩
theorem tree_of (m:Nat) (hm:∀ (u v:Value) (L M:List T) (w:World),InL false All w m u L->InL false All w m v M->Calls prog 10 #[u,v] w fun r w'=>r=.returned (.bool (sm L M))/\Below w.heap.size w w'):Sames (m+1):=by
 intro u v c d w hu hv;obtain⟨g,s,n,l⟩:=c;obtain⟨g',s',n',l'⟩:=d;rw[in_iff] at hu hv;obtain⟨nv,lv,rfl,hg,hs,hn,hl⟩:=hu;obtain⟨nv',lv',rfl,-,-,hn',hl'⟩:=hv;obtain⟨W0,hW0⟩ : ∃ W0,(w.alloc (.cells #[.string g,.string s,nv,lv] 47)).alloc (.cells #[.string g',.string s',nv',lv'] 47)=W0:=⟨_,rfl⟩;have hb0:Below w.heap.size w W0:=by rw[<- hW0];exact ((Below.refl _ w).alloc (Nat.le_refl _) _).alloc (by simp) _
 have hsz0:W0.heap.size=w.heap.size+2:=by rw[<- hW0];simp
 have hx0:W0.heap[w.heap.size]? = some (.cells #[.string g,.string s,nv,lv] 47):=by
  rw[<- hW0,Below.heap_alloc _ _ _ (by simp),heap_alloc_new]
 have hx1:W0.heap[w.heap.size+1]? = some (.cells #[.string g',.string s',nv',lv'] 47):=by
  have:=heap_alloc_new (w.alloc (.cells #[.string g,.string s,nv,lv] 47)) (.cells #[.string g',.string s',nv',lv'] 47);rwa [hW0,World.size_alloc] at this
 have c49:=eqAttrs_c nv nv' n n' W0 (hn.below hb0) (hn'.below hb0);have hl2:=hl.below hb0;have hl2':=hl'.below hb0;obtain⟨a1,c1,rfl,-⟩:=hn;obtain⟨a2,c2,rfl,-⟩:=hn';obtain⟨a3,c3,rfl,-⟩:=id hl;obtain⟨a4,c4,rfl,-⟩:=id hl';obtain⟨d0,d1,d2,d3⟩:=four_box hx0;obtain⟨e0,e1,e2,e3⟩:=four_box hx1;have Hm:Hid (∀ (u v:Value) (L M:List T) (w:World),InL false All w m u L->InL false All w m v M->Calls prog 10 #[u,v] w fun r w'=>r=.returned (.bool (sm L M))/\Below w.heap.size w w'):=hm;have e:s1 (.mk g s n l) (.mk g' s' n' l')=((g.toList == g'.toList) && ((s.toList == s'.toList) && (sa n n' && sm l l'))):=rfl;rw[e];clear e hm hl hl';cases h1:(g.toList == g'.toList) with
 | false=>
  go_enter func21,ntmps21;go_wp2_with fail
  go_ret
  exact⟨by simp,hb0⟩
 | true=>
  cases h2:(s.toList == s'.toList) with
  | false=>
   go_enter func21,ntmps21;go_wp2_with fail
   go_ret
   exact⟨by simp,hb0⟩
  | true=>
   cases h3:sa n n' with
   | false=>
    rw[h3] at c49;go_enter func21,ntmps21;go_wp2_with fail
    refine c49.mono ?_;rintro e w1 ⟨rfl,b1⟩;go_wp2_with fail
    go_ret
    exact⟨by simp,nx hb0 b1⟩
   | true=>
    rw[h3] at c49;obtain⟨R,hR⟩ : ∃ R,sm l l'=R:=⟨_,rfl⟩;rw[hR];have HR:Hid (sm l l'=R):=hR;clear hR;go_enter func21,ntmps21;go_wp2_with fail
    refine c49.mono ?_;rintro e w1 ⟨rfl,b1⟩;have k3:=(four_box ((b1.block w.heap.size (by omega)).trans hx0)).2.2.2;have j3:=(four_box ((b1.block (w.heap.size+1) (by omega)).trans hx1)).2.2.2;have c20:=Hm.out _ _ l l' w1 (hl2.below b1) (hl2'.below b1);rw[HR.out] at c20;clear c49 hx0 hx1 hW0 hl2 hl2';go_wp2_with fail
    refine c20.mono ?_;rintro e w2 ⟨rfl,b2⟩;go_wp2_with fail
    go_ret
    exact⟨by simp,nx (nx hb0 b1) b2⟩
theorem samesAll:∀ m,Sames m:=by
 intro m;induction m with
 | zero=>intro u v c d w h;rw[In] at h;exact h.elim
 | succ m ih=>exact tree_of m (same_of m ih)
theorem same_c (m:Nat) (u v:Value) (L M:List T) (w:World) (hu:InL false All w m u L) (hv:InL false All w m v M) :
  Calls prog 10 #[u,v] w fun r w'=>r=.returned (.bool (sm L M))/\Below w.heap.size w w':=same_of m (samesAll m) u v L M w hu hv
end Go.Proofs.YtdolgmmldncfkaaGreatDoor.TSame
namespace Go.Proofs.YtdolgmmldncfkaaGreatDoor.WAp
open Go.RowKit
theorem step_rows {P:Program} {ops:Array Oper} {o:Oper} {y:Act} {K:Act->World->Prop} {Q:Exit->Act->World->Prop} {E:Prop} {w:World} (hgd:o.guard=none) (x z:Operand) (t:TypeId) (ho:o.op=.call { callee:=.builtin .append,args:=#[x,z],argTypes:=#[t,t] })
  (base:Nat) (e:TypeId) (i:TypeInfo) (zr:Value) (size bytes:Nat) (ht:P.underlying t=some (.slice e)) (hi:P.info? e=some i) (hz:i.zero=some zr) (hsize:i.size=size) (hby:i.bytes=bytes) (hzs:zr.cells.size=size) (hsz:0<size)
  {v:Value} {n:Nat} {xs:List Value} (hown:w.ownsRow base e size v n xs) {B2:Nat} {v2:Value} {m:Nat} {news:List Value} (h2:w.ownsRow B2 e size v2 m news) (hl:news.length=m*size) (h1:∀ u ∈ news,u.oneCell'=true)
  (h63:n+m<=maxLen) (hbytes:(n+m)*bytes<=140737488355328) (hbase:base<=w.heap.size) (hx:y.eval x=v) (hzv:y.eval z=v2)
  (hk:∀ v' W,W.ownsRow base e size v' (n+m) (xs ++ news)->w.grownBy W v.ownBlock->K (y.put o.dst v') W):if Region.wanted o (yielded ops y.tmps)=true then Oper.wp P o y w K Q else E:=by
 have hw:Region.wanted o (yielded ops y.tmps)=true:=by simp [Region.wanted, hgd]
 rw[if_pos hw];rcases h2.2 with ⟨e2,e20⟩|⟨g2,cap2,cur2,e2,-⟩
 ·subst e2
  subst e20;obtain rfl:news=[]:=List.eq_nil_of_length_eq_zero (by omega);have hrun:=run_append_owned_none (P:=P) (w:=w) base t o.type e i size ht hi v n xs hown;unfold Oper.wp execOp;simp only [ho, resolve, invoke, builtin, Sem.run_bind, Sem.run_pure, Result.andThen_ok, List.map_toArray, List.map_cons, List.map_nil, hx, hzv, hrun];exact hk v w (by simpa using hown) ⟨rfl,rfl,rfl,Nat.le_refl _,fun _ _ _=>rfl⟩
 ·subst e2
  obtain⟨v',W,hrun,h3,h4,-,-⟩:=run_append_own_at (P:=P) w base t o.type e i zr size bytes ht hi hz hsize hby hzs hsz v n xs hown ⟨g2,0,none⟩ m cap2 news hl (fun j u hu=>World.ownsRow.cells (g:=g2) h2 rfl j u hu) h1 h63 hbytes hbase;unfold Oper.wp execOp;simp only [ho, resolve, invoke, builtin, Sem.run_bind, Sem.run_pure, Result.andThen_ok, List.map_toArray, List.map_cons, List.map_nil, hx, hzv, hrun];exact hk v' W h3 h4
theorem app_row {P:Program} {w:World} {ops:Array Oper} {rest:List Oper} {o:Oper} {a:Act} {Q:Exit->Act->World->Prop} (hgd:o.guard=none) (s x:Operand) (t:TypeId)
  (ho:o.op=.call { callee:=.builtin .append,args:=#[s,x],argTypes:=#[t,t] })
  (base:Nat) (e:TypeId) (i:TypeInfo) (z:Value) (size bytes:Nat) (ht:P.underlying t=some (.slice e)) (hi:P.info? e=some i) (hz:i.zero=some z)
  (hsize:i.size=size) (hby:i.bytes=bytes) (hzs:z.cells.size=size) (hsz:0<size)
  (v:Value) (n:Nat) (xs:List Value) (hs:a.eval s=v) (hown:w.ownsRow base e size v n xs)
  (B2:Nat) (v2:Value) (m:Nat) (news:List Value) (hx:a.eval x=v2) (h2:w.ownsRow B2 e size v2 m news) (hl:news.length=m*size) (h1:∀ u ∈ news,u.oneCell'=true)
  (h63:n+m<=maxLen) (hbytes:(n+m)*bytes<=140737488355328) (hbase:base<=w.heap.size)
  (h:∀ v' w',w'.ownsRow base e size v' (n+m) (xs ++ news)->w.grownBy w' v.ownBlock->wpList P ops Q rest (a.put o.dst v') w') :
  wpList P ops Q (o :: rest) a w:=by
 rcases h2.2 with ⟨e2,e20⟩|⟨g2,cap2,cur2,e2,-⟩
 ·subst e2
  subst e20;obtain rfl:news=[]:=List.eq_nil_of_length_eq_zero (by omega);refine wpList_append_own_none hgd s x t ho base e i size ht hi v n xs hs hown hx (h v w ?_ ⟨rfl,rfl,rfl,Nat.le_refl _,fun _ _ _=>rfl⟩);simpa using hown
 ·subst e2
  exact wpList_append_own_at _ hgd s x t ho base e i z size bytes ht hi hz hsize hby hzs hsz v n xs hs hown ⟨g2,0,none⟩ m cap2 news hx hl (fun j u hu=>World.ownsRow.cells (g:=g2) h2 rfl j u hu) h1 h63 hbytes hbase (fun v' w' k1 k2 _ _=>h v' w' k1 k2)
end Go.Proofs.YtdolgmmldncfkaaGreatDoor.WAp

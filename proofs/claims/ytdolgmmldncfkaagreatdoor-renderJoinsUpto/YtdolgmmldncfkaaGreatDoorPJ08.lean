import Derived.BigQuiet
import Derived.Deep.RegionWith
import Derived.Laws.BitsAllLaws
import Derived.LoopTactic
import Derived.WalkSpells
import Derived.Test.YtdolgmmldncfkaaGreatDoorPJ02
import Derived.Test.YtdolgmmldncfkaaGreatDoorPJ07
open Go.Proofs.Tryz
set_option linter.unusedVariables false
set_option maxRecDepth 20000
set_option maxHeartbeats 3200000
namespace Go.Proofs.YtdolgmmldncfkaaGreatDoor.VRs
open Go.RowKit Base VPure VSm Sums
def VR (K m:Nat) (w:World) (a:Ans) (e:Ending) (w':World):Prop:=Below w.heap.size w w'/\match a with
 | .ok c=>∃ u,e=.returned u/\Base.In false (fun b=>b<K) w' m u c
 | .error n=>e=.panicked (pkE n)
theorem in_low {K m:Nat} {w w':World} {u:Value} {c:C} (h:Base.In false (fun b=>b<K) w m u c) (hb:Below K w w'):Base.In false (fun b=>b<K) w' m u c:=h.keep fun b hb' _=>hb.block b hb'
theorem in_v0 (S:Nat->Prop) (w:World) (m:Nat) {k i:Int} (b:Bool) {s:ByteArray} (hk : -9223372036854775808<=k/\k<=9223372036854775807) (hi : -9223372036854775808<=i/\i<=9223372036854775807) (hs:s.size<=140737488351232) :
  Base.In false S w (m+1) (v0 k b i s) (.mk k b i s [] []):=by
 rw[Base.in_iff];refine⟨_,_,rfl,hk,hi,hs,⟨none,0,rfl,Nat.le_refl _,Nat.zero_le _,by simp,by simp,fun _=>rfl,.inl ⟨rfl,rfl⟩⟩,none,0,rfl,Nat.le_refl _,Nat.zero_le _,by simp,fun _=>rfl,.inl ⟨rfl,rfl⟩⟩
theorem in_int (S:Nat->Prop) (w:World) (m:Nat) {i:Int} (hi : -9223372036854775808<=i/\i<=9223372036854775807):Base.In false S w (m+1) (v0 3 false i ⟨#[]⟩) (intC i):=in_v0 S w m false (by omega) hi (by decide)
theorem in_boo (S:Nat->Prop) (w:World) (m:Nat) (b:Bool):Base.In false S w (m+1) (v0 2 b 0 ⟨#[]⟩) (booC b):=in_v0 S w m b (by omega) (by omega) (by decide)
theorem in_str (S:Nat->Prop) (w:World) (m:Nat) {s:ByteArray} (hs:s.size<=140737488351232):Base.In false S w (m+1) (v0 4 false 0 s) (strC s):=in_v0 S w m false (by omega) (by omega) hs
theorem in_nul (S:Nat->Prop) (w:World) (m:Nat):Base.In false S w (m+1) (v0 1 false 0 ⟨#[]⟩) nulC:=in_v0 S w m false (by omega) (by omega) (by decide)
theorem in_zer (S:Nat->Prop) (w:World) (m:Nat):Base.In false S w (m+1) (v0 0 false 0 ⟨#[]⟩) zerC:=in_v0 S w m false (by omega) (by omega) (by decide)
theorem wh_rng {o x y:Int} (hx : -9223372036854775808<=x/\x<=9223372036854775807) : -9223372036854775808<=(wh o x y).1/\(wh o x y).1<=9223372036854775807:=by
 unfold wh;have hn:∀ z:Int,-9223372036854775808<=num z/\num z<=9223372036854775807:=fun z=>⟨num_ge z,num_le z⟩
 repeat' split
 all_goals first
  | exact hn _
  | (unfold WhA.dnum;split;(omega);exact hn _)
  | (unfold WhA.mnum;split;(omega);exact WhA.tmod_range _ hx.1 hx.2)
  | exact WhA.div_range hx.1 hx.2 (Int.pow_pos (by omega))
  | (exact⟨by omega,by omega⟩)
theorem an_vr {K m:Nat} {w w':World} {e:Ending} {a:Except Nat Int} (hr:∀ c,a=.ok c -> -9223372036854775808<=c/\c<=9223372036854775807) (h:An w w' e (fun c:Int=>v0 3 false c ⟨#[]⟩) a):VR K (m+1) w (mapI a) e w':=by
 cases a with
 | error n=>exact⟨h.2,h.1⟩
 | ok c=>exact⟨h.2,_,h.1,in_int _ w' m (hr c rfl)⟩
theorem tw_ok {k1 k2 x e0 c:Int} (h:twI k1 k2 x e0=.ok c):c=x:=by
 unfold twI chkI at h;repeat' split at h
 all_goals first | (injection h with h;exact h.symm) | (cases h)
theorem in_shape {S:Nat->Prop} {w:World} {m:Nat} {u:Value} {c:C} (h:Base.In false S w m u c):∃ an ln cn al ll cl,u=vl c.k c.b c.i c.s (.slice an ln cn) (.slice al ll cl):=by
 obtain⟨m',nv,lv,-,hu,-,-,-,hn,hl⟩:=h.shape;obtain⟨an,cn,rfl,-⟩:=hn;obtain⟨al,cl,rfl,-⟩:=hl;exact⟨an,_,cn,al,_,cl,hu⟩
theorem in_rng {S:Nat->Prop} {w:World} {m:Nat} {u:Value} {c:C} (h:Base.In false S w m u c) : -9223372036854775808<=c.i/\c.i<=9223372036854775807:=by
 obtain⟨m',nv,lv,-,hu,-,hi,-,-,-⟩:=h.shape;exact hi
end Go.Proofs.YtdolgmmldncfkaaGreatDoor.VRs
namespace Go.Proofs.YtdolgmmldncfkaaGreatDoor.USmall
open Go.ChangeShapes Go.WideShapes Go.ChangeAt Go.RowKit UBase
theorem letter_c (c:Int) (n:Nat) (h:c=n) (w:World) :
  Calls prog 164 #[.int .u8 c] w fun r w'=>r=.returned (.bool (let' n))/\w'=w:=by
 subst h;go_enter func164,ntmps164;go_wp2
 ·have h:(97:Int)<=n:=by assumption
  go_ret
  have e:let' n=decide ((n:Int)<=122):=by unfold let';simp only [decide_eq_true (show 97 <= n by omega), Bool.true_and];exact decide_eq_decide.mpr (by omega)
  rw[e];exact⟨rfl,rfl⟩
 ·have h:(n:Int)<97:=by assumption
  go_ret
  have e:let' n=false:=by unfold let';simp;omega
  rw[e];exact⟨rfl,rfl⟩
theorem digit_c (c:Int) (n:Nat) (h:c=n) (w:World) :
  Calls prog 165 #[.int .u8 c] w fun r w'=>r=.returned (.bool (dig n))/\w'=w:=by
 subst h;go_enter func165,ntmps165;go_wp2
 ·have h:(48:Int)<=n:=by assumption
  go_ret
  have e:dig n=decide ((n:Int)<=57):=by unfold dig;simp only [decide_eq_true (show 48 <= n by omega), Bool.true_and];exact decide_eq_decide.mpr (by omega)
  rw[e];exact⟨rfl,rfl⟩
 ·have h:(n:Int)<48:=by assumption
  go_ret
  have e:dig n=false:=by unfold dig;simp;omega
  rw[e];exact⟨rfl,rfl⟩
theorem at_list (s:ByteArray) (i:Nat):at' s i=((s.data.toList)[i]?.getD 0).toNat:=by
 by_cases h:i<s.size
 ·have hl:i<s.data.toList.length:=by rw[Array.length_toList];exact h
  rw[at_get s i h,List.getElem?_eq_getElem hl,Array.getElem_toList];rfl
 ·have hl:s.data.toList.length<=i:=by rw[Array.length_toList];exact Nat.le_of_not_lt h
  rw[at_out s i h,List.getElem?_eq_none hl];rfl
theorem rep_list (d:ByteArray) (h3:3<=d.size):((d.extract 0 3).toList == [239,191,189])=rep d 0:=by
 rw[ByteArray.toList_eq,ByteArray.data_extract,Array.toList_extract];unfold rep;rw[at_list d 0,at_list d (0+1),at_list d (0+2)];have hl:d.data.toList.length=d.size:=Array.length_toList;generalize d.data.toList=L at *
 match L,hl with
 | x :: y :: z :: r,_=>
  rw[Bool.eq_iff_iff];simp [<- UInt8.toNat_inj]
 | [],hl=>simp at hl;omega
 | [_],hl=>simp at hl;omega
 | [_,_],hl=>simp at hl;omega
theorem pre_long (d:ByteArray) (h:d.size<=9223372036854775807) (h3:3<=d.size) (w:World) :
  Calls prog 152 #[.string d,.string ⟨#[239,191,189]⟩] w fun r w'=>r=.returned (.bool (rep d 0))/\w'=w:=by
 rw[<- rep_list d h3];go_enter func152,ntmps152;go_wp2
 go_ret
 exact⟨rfl,rfl⟩
theorem pre_short (d:ByteArray) (h3 : ¬ 3<=d.size) (w:World) :
  Calls prog 152 #[.string d,.string ⟨#[239,191,189]⟩] w fun r w'=>r=.returned (.bool (rep d 0))/\w'=w:=by
 have e:rep d 0=false:=by unfold rep;rw[at_out d (0+2) (by omega)];simp
 rw[e];go_enter func152,ntmps152;go_wp2
 go_ret
 exact⟨rfl,rfl⟩
theorem pre_c (d:ByteArray) (h:d.size<=9223372036854775807) (w:World) :
  Calls prog 84 #[.string d] w fun r w'=>r=.returned (.bool (rep d 0))/\w'=w:=by
 have c26:∀ w,Calls prog 152 #[.string d,.string ⟨#[239,191,189]⟩] w fun r w'=>r=.returned (.bool (rep d 0))/\w'=w:=fun w=>by
  by_cases h3:3<=d.size
  ·exact pre_long d h h3 w
  ·exact pre_short d h3 w
 have c23:∀ w,Calls prog 124 #[.string d,.string ⟨#[239,191,189]⟩] w fun r w'=>r=.returned (.bool (rep d 0))/\w'=w:=fun w=>by
  go_enter func124,ntmps124;go_wp2_with (first | (go_at_call 152;refine (c26 _).mono ?_;rintro e w' ⟨rfl,rfl⟩))
  go_ret
  exact⟨rfl,rfl⟩
 go_enter func84,ntmps84;go_wp2_with (first | (go_at_call 124;refine (c23 _).mono ?_;rintro e w' ⟨rfl,rfl⟩))
 go_ret
 exact⟨rfl,rfl⟩
end Go.Proofs.YtdolgmmldncfkaaGreatDoor.USmall
namespace Go.Proofs.YtdolgmmldncfkaaGreatDoor.UValid
open Go.ChangeShapes Go.WideShapes Go.ChangeAt Go.RowKit UBase
theorem verr_none {s:ByteArray} (h:bad s 0=none):vat s=0/\verr s=0:=by unfold vat verr;rw[h];simp
theorem verr_some {s:ByteArray} {i:Nat} (h:bad s 0=some i):vat s=i/\verr s=300:=by unfold vat verr;rw[h];simp
end Go.Proofs.YtdolgmmldncfkaaGreatDoor.UValid
namespace Go.Proofs.YtdolgmmldncfkaaGreatDoor.UOwn
open Go.ChangeShapes Go.WideShapes Go.ChangeAt Go.RowKit UBase USmall UValid
theorem at_extract (s:ByteArray) (i n k:Nat) (hn:n<=s.size) (hk:i+k<n):at' (s.extract i n) k=at' s (i+k):=by
 rw[at_list,at_list,ByteArray.data_extract,Array.toList_extract,List.extract_eq_take_drop,List.getElem?_take,List.getElem?_drop,if_pos (by omega)]
theorem at_behind (s:ByteArray) (i k:Nat):at' (s.extract i s.size) k=at' s (i+k):=by
 by_cases h:i+k<s.size
 ·exact at_extract s i s.size k (Nat.le_refl _) h
 ·rw[at_out s _ h,at_out _ k (by simp;omega)]
theorem rep_behind (s:ByteArray) (i:Nat):rep (s.extract i s.size) 0=rep s i:=by
 unfold rep;rw[at_behind,at_behind,at_behind];rfl
theorem valid_c (s:ByteArray) (hs:s.size<=9223372036854775807) (w:World) :
  Calls prog 60 #[.string s] w fun r w'=>r=.returned (.tuple #[.int .i64 (vat s),.int .i64 (verr s)])/\∃ p,w'=w.iter s p:=by
 go_enter func60,ntmps60;go_wp2
 go_loopw [] (fun wr=>∃ n:Nat,n<=s.size/\wr=w.iter s n/\bad s 0=bad s n) (fun wr=>s.size - wr.iterPos w.heap.size)
 case atStart=>exact⟨0,by omega,rfl,rfl⟩
 case round=>
  obtain⟨n,hn,rfl,hb⟩:=hrel;have HB:Hid (bad s 0=bad s n):=hb;clear hb;by_cases hlt:n<s.size
  ·have hnx:∀ ty,(Instr.next (.pointer (some ⟨w.heap.size,0,none⟩)) true ty).run prog (w.iter s n)=_:=fun ty=>run_next_any w s n ty hlt
   have hd:=dec_len s n;obtain⟨hd1,hd2,_⟩:=hd;have hi:=len_in hlt;have cp:∀ w,Calls prog 84 #[.string (s.extract n s.size)] w fun r w'=>r=.returned (.bool (rep s n))/\w'=w:=fun w=>by
    rw[<- rep_behind];exact pre_c _ (by simp;omega) w
   by_cases hz:len s n=0
   ·obtain⟨e1,e2⟩:=hd1.mp hz
    go_wp2_with (first | (go_at_call 84;refine (cp _).mono ?_;rintro e w' ⟨rfl,rfl⟩))
    go_ret2
    have e:=verr_some (HB.out.trans (bad_here hlt hz));rw[e.1,e.2];exact⟨rfl,_,rfl⟩
   ·have hw:=hd2 hz
    by_cases hf:(Utf8.decode s n).1=65533
    ·have e2:rep s n=true:=by
      cases h:rep s n with
      | true=>rfl
      | false=>exact absurd (hd1.mpr ⟨hf,h⟩) hz
     go_wp2_with (first | (go_at_call 84;refine (cp _).mono ?_;rintro e w' ⟨rfl,rfl⟩))
     go_roundw
     case rel=>exact⟨n+len s n,hi,rfl,HB.out.trans (bad_step hlt hz)⟩
     case measure=>simp;omega
    ·have hf':(((Utf8.decode s n).1:Int) == 65533)=false:=by simp;omega
     go_wp2
     go_roundw
     case rel=>exact⟨n+len s n,hi,rfl,HB.out.trans (bad_step hlt hz)⟩
     case measure=>simp;omega
  ·have hnx:∀ ty,(Instr.next (.pointer (some ⟨w.heap.size,0,none⟩)) true ty).run prog (w.iter s n)=_:=fun ty=>run_next_end w s n ty hlt
   go_wp2
   go_ret2
   have e:=verr_none (HB.out.trans (bad_end hlt));rw[e.1,e.2];exact⟨rfl,_,rfl⟩
end Go.Proofs.YtdolgmmldncfkaaGreatDoor.UOwn
namespace Go.Proofs.YtdolgmmldncfkaaGreatDoor.UWord
open Go.ChangeShapes Go.WideShapes Go.ChangeAt Go.RowKit UBase USmall
theorem size_empty {s:ByteArray} (h:s.size=0):s=ByteArray.empty:=by
 apply ByteArray.ext
 apply Array.eq_empty_of_size_eq_zero
 exact h
theorem word_of {s:ByteArray} {j:Nat} (h1:0<s.size) (h2:s.size<=32) (h3:let' (at' s 0)=true) (h4:∀ i,i<s.size->sign j (at' s i)=true):word s j=true:=by
 unfold word;simp only [decide_eq_true h1, decide_eq_true h2, h3, Bool.true_and];exact decide_eq_true h4
theorem word_not {s:ByteArray} {j:Nat} (h : ¬ (0<s.size/\s.size<=32/\let' (at' s 0)=true)):word s j=false:=by
 cases e:word s j with
 | false=>rfl
 | true=>
  unfold word at e;simp only [Bool.and_eq_true, decide_eq_true_eq] at e;exact absurd ⟨e.1,e.2.1,e.2.2.1⟩ h
theorem word_bad {s:ByteArray} {j i:Nat} (hi:i<s.size) (h:sign j (at' s i)=false):word s j=false:=by
 cases e:word s j with
 | false=>rfl
 | true=>
  unfold word at e;simp only [Bool.and_eq_true, decide_eq_true_eq] at e;rw[e.2.2.2 i hi] at h;cases h
theorem sign_let {j c:Nat} (h:let' c=true):sign j c=true:=by unfold sign;rw[h];rfl
theorem sign_dig {j c:Nat} (h:dig c=true):sign j c=true:=by unfold sign;rw[h];simp
theorem sign_joint {j c:Nat} (h:((c:Int) != (j:Int))=false):sign j c=true:=by
 have e:c=j:=by simp at h;omega
 unfold sign;rw[decide_eq_true e];simp
theorem sign_none {j c:Nat} (h1 : ¬ let' c=true) (h2 : ¬ dig c=true) (h:((c:Int) != (j:Int))=true):sign j c=false:=by
 have e : ¬ c=j:=by simp at h;omega
 unfold sign;simp [h1, h2, e]
theorem own_empty (j:Int) (w:World) :
  Calls prog 151 #[.string ByteArray.empty,.int .u8 j] w fun r w'=>r=.returned (.bool false)/\w'=w:=by
 go_enter func151,ntmps151;go_wp2
 go_ret
 exact⟨rfl,rfl⟩
theorem own_long (s:ByteArray) (h:32<s.size) (hs:s.size<=9223372036854775807) (j:Int) (w:World) :
  Calls prog 151 #[.string s,.int .u8 j] w fun r w'=>r=.returned (.bool false)/\w'=w:=by
 have h0:0<s.size:=by omega
 have he : ¬ s=ByteArray.empty:=fun h=>by subst h;revert h0;decide
 have he2:((s.size:Int) == 0)=false:=by simp;omega
 go_enter func151,ntmps151;go_wp2
 go_ret
 exact⟨rfl,rfl⟩
theorem own_first (s:ByteArray) (h0:0<s.size) (h:s.size<=32) (hl:let' s[0].toNat=false) (j:Int) (w:World) :
  Calls prog 151 #[.string s,.int .u8 j] w fun r w'=>r=.returned (.bool false)/\w'=w:=by
 have he : ¬ s=ByteArray.empty:=fun h=>by subst h;revert h0;decide
 have he2:((s.size:Int) == 0)=false:=by simp;omega
 have he3:decide ((32:Int)<(s.size:Int))=false:=by simp;omega
 go_enter func151,ntmps151;go_wp2_with (first | (go_at_call 164;refine (letter_c _ (s[0].toNat) rfl _).mono ?_;rintro e w' ⟨rfl,rfl⟩))
 go_ret
 exact⟨rfl,rfl⟩
theorem own_go (s:ByteArray) (h0:0<s.size) (h:s.size<=32) (hl:let' s[0].toNat=true) (j:Nat) (w:World) :
  Calls prog 151 #[.string s,.int .u8 j] w fun r w'=>r=.returned (.bool (word s j))/\w'=w:=by
 have he : ¬ s=ByteArray.empty:=fun h=>by subst h;revert h0;decide
 have he2:((s.size:Int) == 0)=false:=by simp;omega
 have he3:decide ((32:Int)<(s.size:Int))=false:=by simp;omega
 go_enter func151,ntmps151;go_wp2_with (first | (go_at_call 164;refine (letter_c _ (s[0].toNat) rfl _).mono ?_;rintro e w' ⟨rfl,rfl⟩))
 go_loop [22] (fun i=>∃ n:Nat,n<=s.size/\i=.int .i64 n/\∀ i,i<n->sign j (at' s i)=true) (fun i=>s.size - (intOf i).toNat)
 case atStart=>exact⟨0,by omega,rfl,fun i hi=>by omega⟩
 case round=>
  obtain⟨n,hn,rfl,ha⟩:=hrel;have HA:Hid (∀ i,i<n->sign j (at' s i)=true):=ha;clear ha;by_cases hlt:n<s.size
  ·have E:Hid (at' s n=(s[n]'hlt).toNat):=at_get s n hlt
   go_wp2_with (first
    | (go_at_call 164;refine (letter_c _ (s[n].toNat) rfl _).mono ?_;rintro e w' ⟨rfl,rfl⟩)
    | (go_at_call 165;refine (digit_c _ (s[n].toNat) rfl _).mono ?_;rintro e w' ⟨rfl,rfl⟩))
   ·have g:sign j s[n].toNat=true:=sign_let (by assumption)
    go_round
    case rel=>
     refine⟨n+1,by omega,by go_num,fun i hi=>?_⟩;by_cases c:i<n
     ·exact HA.out i c
     ·obtain rfl:i=n:=by omega
      rw[E.out];exact g
    case measure=>simp only [intOf];omega
   ·have g:sign j s[n].toNat=true:=sign_dig (by assumption)
    go_round
    case rel=>
     refine⟨n+1,by omega,by go_num,fun i hi=>?_⟩;by_cases c:i<n
     ·exact HA.out i c
     ·obtain rfl:i=n:=by omega
      rw[E.out];exact g
    case measure=>simp only [intOf];omega
   ·have g:sign j s[n].toNat=false:=sign_none (by assumption) (by assumption) (by assumption)
    go_ret
    have e:word s j=false:=word_bad hlt (by rw[E.out];exact g);rw[e];exact⟨rfl,rfl⟩
   ·have g:sign j s[n].toNat=true:=sign_joint (by assumption)
    go_round
    case rel=>
     refine⟨n+1,by omega,by go_num,fun i hi=>?_⟩;by_cases c:i<n
     ·exact HA.out i c
     ·obtain rfl:i=n:=by omega
      rw[E.out];exact g
    case measure=>simp only [intOf];omega
  ·go_wp2
   go_ret
   have e:word s j=true:=word_of h0 h (by rw[at_get s 0 h0];exact hl) (fun i hi=>HA.out i (by omega));rw[e];exact⟨rfl,rfl⟩
theorem own_c (s:ByteArray) (hs:s.size<=9223372036854775807) (j:Nat) (w:World) :
  Calls prog 151 #[.string s,.int .u8 j] w fun r w'=>r=.returned (.bool (word s j))/\w'=w:=by
 by_cases h0:0<s.size
 ·by_cases h:s.size<=32
  ·have e:=at_get s 0 h0
   cases hl:let' s[0].toNat with
   | true=>exact own_go s h0 h hl j w
   | false=>
    rw[word_not (by rw[e,hl];simp)];exact own_first s h0 h hl j w
  ·rw[word_not (by omega)]
   exact own_long s (by omega) hs j w
 ·rw[word_not (by omega)]
  obtain rfl:=size_empty (by omega:s.size=0);exact own_empty j w
theorem tag_c (s:ByteArray) (hs:s.size<=9223372036854775807) (w:World) :
  Calls prog 158 #[.string s] w fun r w'=>r=.returned (.bool (word s 45))/\w'=w:=by
 go_enter func158,ntmps158;go_wp2_with (first | (go_at_call 151;refine (own_c s hs 45 _).mono ?_;rintro e w' ⟨rfl,rfl⟩))
 go_ret
 exact⟨rfl,rfl⟩
end Go.Proofs.YtdolgmmldncfkaaGreatDoor.UWord
namespace Go.Proofs.YtdolgmmldncfkaaGreatDoor.SNm
open Go.RowKit UBase
theorem Name_c (s:ByteArray) (hs:s.size<=9223372036854775807) (w:World) :
  Calls prog 123 #[.string s] w fun r w'=>r=.returned (.bool (UBase.word s 95))/\w'=w:=by
 have c1:=UWord.own_c s hs 95 w;go_enter func123,ntmps123;go_wp2_with (first | (go_at_call 151;refine c1.mono ?_;rintro e w' ⟨rfl,rfl⟩))
 go_ret
 exact⟨rfl,rfl⟩
end Go.Proofs.YtdolgmmldncfkaaGreatDoor.SNm
namespace Go.Proofs.YtdolgmmldncfkaaGreatDoor.SFit
open Go.RowKit Base UBase
open XBase (four_box frozen_box Rg)
def kd (o:Int):Int:=if 1<=o/\o<=6 then 0 else if o=7\/o=9\/o=10\/o=11 then 1 else if o=8\/(12<=o/\o<=30) then 2 else if o=31 then 3 else -1
theorem ret_int {k:IntKind} {a b:Int} (h:a=b):Ending.returned (.int k a)=.returned (.int k b):=by rw[h]
theorem kidsOf_c (o:Int) (h1 : -9223372036854775808<=o) (h2:o<=9223372036854775807) (w:World):Calls prog 82 #[.int .i64 o] w fun e w'=>e=.returned (.int .i64 (kd o))/\w'=w:=by
 go_enter func82,ntmps82;go_wp2_with fail
 all_goals
  go_ret
  refine⟨ret_int ?_,rfl⟩;unfold kd;simp_all
  try omega
theorem ne:∀ s:ByteArray,s.toList.isEmpty=(s.size == 0):=by
 intro s;rw[ByteArray.toList_eq];cases h:s.data.toList with
 | nil=>
  have:s.size=0:=by rw[<- ByteArray.size_data,<- Array.length_toList,h];rfl
  simp [this]
 | cons a r=>
  have:s.size=r.length+1:=by rw[<- ByteArray.size_data,<- Array.length_toList,h];rfl
  simp [this]
def ft (lf:Int->Int->ByteArray->Bool) (o i:Int) (t:ByteArray):Bool:=
 if o=5\/o=6 then lf o i t
 else if o=4 then decide (0<=i) && (t.size == 0)
 else if o=7 then (i == 0) && UBase.word t 95
 else if o=9 then (decide (1<=i) && decide (i<=8)) && (t.size == 0)
 else (i == 0) && (t.size == 0)
abbrev lfv (k:Nat):Value:=.func (Fn.func k) #[] #[]
def Lf (k:Nat) (lf:Int->Int->ByteArray->Bool):Prop:=(∀ (args:Array Value) (w:World),Sem.run prog (callFunc k args) w=.ok (.enter k args) w)/\∀ (o i:Int) (t:ByteArray) (a:Option Addr) (n c:Nat) (w:World),(o=5\/o=6)->t.size<=140737488351232 ->
 Calls prog k #[.agg #[.int .i64 o,.int .i64 i,.string t,.slice a n c]] w fun e w'=>e=.returned (.bool (lf o i t))/\Below w.heap.size w w'
theorem ret_bool {a b:Bool} (h:a=b):Ending.returned (.bool a)=.returned (.bool b):=by rw[h]
theorem fits_int {k:Nat} {lf:Int->Int->ByteArray->Bool} {i:Int} {t:ByteArray} {a:Option Addr} {n c:Nat} (w:World) :
  Calls prog 83 #[.agg #[.int .i64 4,.int .i64 i,.string t,.slice a n c],lfv k] w fun e w'=>e=.returned (.bool (ft lf 4 i t))/\Below w.heap.size w w':=by
 have b0:Below w.heap.size w (w.alloc (.cells #[.int .i64 4,.int .i64 i,.string t,.slice a n c] 44)):=(Below.refl _ w).alloc (Nat.le_refl _) _;have hne:=ne t;have e:ft lf 4 i t=(decide (0<=i) && (t.size == 0)):=rfl;rw[e];obtain⟨z,hz⟩ : ∃ z,(t.size == 0)=z:=⟨_,rfl⟩;rw[hz] at hne ⊢;clear e hz;by_cases hi:0<=i
 ·have d:decide ((0:Int)<=i)=true:=decide_eq_true hi
  rw[d,Bool.true_and];clear hi;go_enter func83,ntmps83;go_wp2_with fail
  go_ret
  exact⟨ret_bool rfl,b0⟩
 ·have d:decide ((0:Int)<=i)=false:=decide_eq_false hi
  rw[d,Bool.false_and];clear hi;go_enter func83,ntmps83;go_wp2_with fail
  go_ret
  exact⟨rfl,b0⟩
theorem fits_else {k:Nat} {lf:Int->Int->ByteArray->Bool} {o i:Int} {t:ByteArray} {a:Option Addr} {n c:Nat} (h4:o≠4) (h5:o≠5) (h6:o≠6) (h7:o≠7) (h9:o≠9) (w:World) :
  Calls prog 83 #[.agg #[.int .i64 o,.int .i64 i,.string t,.slice a n c],lfv k] w fun e w'=>e=.returned (.bool (ft lf o i t))/\Below w.heap.size w w':=by
 have b0:Below w.heap.size w (w.alloc (.cells #[.int .i64 o,.int .i64 i,.string t,.slice a n c] 44)):=(Below.refl _ w).alloc (Nat.le_refl _) _;have hne:=ne t;have e:ft lf o i t=((i == 0) && (t.size == 0)):=by unfold ft;rw[if_neg (by omega),if_neg h4,if_neg h7,if_neg h9]
 rw[e];have e4:(o == 4)=false:=by simp [h4]
 have e5:(o == 5)=false:=by simp [h5]
 have e6:(o == 6)=false:=by simp [h6]
 have e7:(o == 7)=false:=by simp [h7]
 have e9:(o == 9)=false:=by simp [h9]
 obtain⟨z,hz⟩ : ∃ z,(t.size == 0)=z:=⟨_,rfl⟩;rw[hz] at hne ⊢;clear e hz h4 h5 h6 h7 h9;cases hi:(i == 0) with
 | true=>
  rw[Bool.true_and];go_enter func83,ntmps83;go_wp2_with fail
  go_ret
  exact⟨ret_bool rfl,b0⟩
 | false=>
  rw[Bool.false_and];go_enter func83,ntmps83;go_wp2_with fail
  go_ret
  exact⟨rfl,b0⟩
theorem fits_field {k:Nat} {lf:Int->Int->ByteArray->Bool} {i:Int} {t:ByteArray} {a:Option Addr} {n c:Nat} (ht:t.size<=140737488351232) (w:World) :
  Calls prog 83 #[.agg #[.int .i64 7,.int .i64 i,.string t,.slice a n c],lfv k] w fun e w'=>e=.returned (.bool (ft lf 7 i t))/\Below w.heap.size w w':=by
 have b0:Below w.heap.size w (w.alloc (.cells #[.int .i64 7,.int .i64 i,.string t,.slice a n c] 44)):=(Below.refl _ w).alloc (Nat.le_refl _) _;have e:ft lf 7 i t=((i == 0) && UBase.word t 95):=rfl;rw[e];have cT:=fun W=>SNm.Name_c t (by omega) W
 obtain⟨z,hz⟩ : ∃ z,UBase.word t 95=z:=⟨_,rfl⟩;rw[hz] at cT ⊢;clear e hz;cases hi:(i == 0) with
 | true=>
  rw[Bool.true_and];go_enter func83,ntmps83;go_wp2_with fail
  refine (cT _).mono ?_;rintro e W1 ⟨rfl,rfl⟩;go_wp2_with fail
  go_ret
  exact⟨rfl,b0⟩
 | false=>
  rw[Bool.false_and];go_enter func83,ntmps83;go_wp2_with fail
  go_ret
  exact⟨rfl,b0⟩
theorem fits_call {k:Nat} {lf:Int->Int->ByteArray->Bool} {i:Int} {t:ByteArray} {a:Option Addr} {n c:Nat} (w:World) :
  Calls prog 83 #[.agg #[.int .i64 9,.int .i64 i,.string t,.slice a n c],lfv k] w fun e w'=>e=.returned (.bool (ft lf 9 i t))/\Below w.heap.size w w':=by
 have b0:Below w.heap.size w (w.alloc (.cells #[.int .i64 9,.int .i64 i,.string t,.slice a n c] 44)):=(Below.refl _ w).alloc (Nat.le_refl _) _;have hne:=ne t;have e:ft lf 9 i t=((decide (1<=i) && decide (i<=8)) && (t.size == 0)):=rfl;rw[e];obtain⟨z,hz⟩ : ∃ z,(t.size == 0)=z:=⟨_,rfl⟩;rw[hz] at hne ⊢;clear e hz;by_cases h1:1<=i
 ·have d1:decide ((1:Int)<=i)=true:=decide_eq_true h1
  rw[d1,Bool.true_and];by_cases h8:i<=8
  ·have d8:decide (i<=(8:Int))=true:=decide_eq_true h8
   rw[d8,Bool.true_and];clear h1 h8;go_enter func83,ntmps83;go_wp2_with fail
   go_ret
   exact⟨ret_bool rfl,b0⟩
  ·have d8:decide (i<=(8:Int))=false:=decide_eq_false h8
   rw[d8,Bool.false_and];clear h1 h8;go_enter func83,ntmps83;go_wp2_with fail
   go_ret
   exact⟨rfl,b0⟩
 ·have d1:decide ((1:Int)<=i)=false:=decide_eq_false h1
  rw[d1,Bool.false_and,Bool.false_and];clear h1;go_enter func83,ntmps83;go_wp2_with fail
  go_ret
  exact⟨rfl,b0⟩
theorem fits_leaf {k:Nat} {lf:Int->Int->ByteArray->Bool} (hL:Lf k lf) {o i:Int} {t:ByteArray} {a:Option Addr} {n c:Nat} (h:o=5\/o=6) (ht:t.size<=140737488351232) (w:World) :
  Calls prog 83 #[.agg #[.int .i64 o,.int .i64 i,.string t,.slice a n c],lfv k] w fun e w'=>e=.returned (.bool (ft lf o i t))/\Below w.heap.size w w':=by
 have b0:Below w.heap.size w (w.alloc (.cells #[.int .i64 o,.int .i64 i,.string t,.slice a n c] 44)):=(Below.refl _ w).alloc (Nat.le_refl _) _;have e:ft lf o i t=lf o i t:=by unfold ft;rw[if_pos h]
 rw[e];have hE:=hL.1;have cL:=hL.2 o i t a n c (w.alloc (.cells #[.int .i64 o,.int .i64 i,.string t,.slice a n c] 44)) h ht;obtain⟨z,hz⟩ : ∃ z,lf o i t=z:=⟨_,rfl⟩;rw[hz] at cL ⊢;clear e hz hL;rcases h with rfl|rfl
 ·go_enter func83,ntmps83
  go_wp2_with fail
  refine cL.mono ?_;rintro e W1 ⟨rfl,b1⟩;go_wp2_with fail
  go_ret
  exact⟨rfl,nx b0 b1⟩
 ·go_enter func83,ntmps83
  go_wp2_with fail
  refine cL.mono ?_;rintro e W1 ⟨rfl,b1⟩;go_wp2_with fail
  go_ret
  exact⟨rfl,nx b0 b1⟩
theorem fits_c {k:Nat} {lf:Int->Int->ByteArray->Bool} (hL:Lf k lf) {o i:Int} {t:ByteArray} {a:Option Addr} {n c:Nat} (ht:t.size<=140737488351232) (w:World) :
  Calls prog 83 #[.agg #[.int .i64 o,.int .i64 i,.string t,.slice a n c],lfv k] w fun e w'=>e=.returned (.bool (ft lf o i t))/\Below w.heap.size w w':=by
 by_cases h4:o=4
 ·subst h4;exact fits_int w
 by_cases h5:o=5\/o=6
 ·exact fits_leaf hL h5 ht w
 by_cases h7:o=7
 ·subst h7;exact fits_field ht w
 by_cases h9:o=9
 ·subst h9;exact fits_call w
 exact fits_else h4 (by omega) (by omega) h7 h9 w
end Go.Proofs.YtdolgmmldncfkaaGreatDoor.SFit

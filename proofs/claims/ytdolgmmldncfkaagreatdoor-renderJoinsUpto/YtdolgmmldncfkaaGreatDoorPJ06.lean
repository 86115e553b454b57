import Derived.Deep.CutRange
import Derived.Deep.RegionHeld3
import Derived.Deep.RegionWith
import Derived.Laws.ResultCell
import Derived.Test.YtdolgmmldncfkaaGreatDoorPJ01
import Derived.Test.YtdolgmmldncfkaaGreatDoorPJ04
import Derived.Test.YtdolgmmldncfkaaGreatDoorPJ05
open Go.Proofs.Tryz
set_option linter.unusedVariables false
set_option maxRecDepth 20000
set_option maxHeartbeats 3200000
namespace Go.Proofs.YtdolgmmldncfkaaGreatDoor.VSm
open Go.RowKit Base
def pkE (c:Nat):List PanicEntry:=[{ v:=.iface 31 (.int .i64 (c:Nat)),recovered:=false }]
abbrev vl (k:Int) (b:Bool) (i:Int) (s:ByteArray) (nv lv:Value):Value:=.agg #[.int .i64 k,.bool b,.int .i64 i,.string s,nv,lv]
abbrev v0 (k:Int) (b:Bool) (i:Int) (s:ByteArray):Value:=vl k b i s (.slice none 0 0) (.slice none 0 0)
theorem two2 (w:World) (c1 c2:Array Value):∃ W0,(w.alloc (.cells c1 26)).alloc (.cells c2 26)=W0/\W0.heap.size=w.heap.size+2/\Below w.heap.size w W0/\W0.heap[w.heap.size]? = some (.cells c1 26 (0,0))/\W0.heap[w.heap.size+1]? = some (.cells c2 26 (0,0)):=by
 refine⟨_,rfl,by simp,((Below.refl _ w).alloc (Nat.le_refl _) _).alloc (by simp) _,?_,?_⟩
 ·rw[Below.heap_alloc _ _ _ (by simp),heap_alloc_new]
 ·have:=heap_alloc_new (w.alloc (.cells c1 26)) (.cells c2 26)
  rw[World.size_alloc] at this;exact this
theorem two3 (w:World) (c1 c2:Array Value):∃ W0,((w.alloc (.cells c1 26)).alloc (.cells c2 26)).alloc (.cells #[.int .i64 0,.bool false,.int .i64 0,.string ⟨#[]⟩,.slice none 0 0,.slice none 0 0] 26)=W0/\W0.heap.size=w.heap.size+3/\Below w.heap.size w W0/\W0.heap[w.heap.size]? = some (.cells c1 26 (0,0))/\W0.heap[w.heap.size+1]? = some (.cells c2 26 (0,0))/\W0.heap[w.heap.size+2]? = some (.cells #[.int .i64 0,.bool false,.int .i64 0,.string ⟨#[]⟩,.slice none 0 0,.slice none 0 0] 26 (0,0)):=by
 obtain⟨W1,h1,h2,h3,h4,h5⟩:=two2 w c1 c2;rw[h1];refine⟨_,rfl,by simp [h2],h3.alloc (by omega) _,?_,?_,?_⟩
 ·rw[Below.heap_alloc _ _ _ (by omega)];exact h4
 ·rw[Below.heap_alloc _ _ _ (by omega)];exact h5
 ·rw[<- h2];exact heap_alloc_new _ _
theorem three (w:World) (c1 c2:Array Value) (T1 T2:TypeId):∃ W0,((w.alloc (.cells c1 T1)).alloc (.cells c2 T2)).alloc (.cells #[.int .i64 0,.bool false,.int .i64 0,.string ⟨#[]⟩,.slice none 0 0,.slice none 0 0] 26)=W0/\W0.heap.size=w.heap.size+3/\Below w.heap.size w W0/\W0.heap[w.heap.size]? = some (.cells c1 T1 (0,0))/\W0.heap[w.heap.size+1]? = some (.cells c2 T2 (0,0))/\W0.heap[w.heap.size+2]? = some (.cells #[.int .i64 0,.bool false,.int .i64 0,.string ⟨#[]⟩,.slice none 0 0,.slice none 0 0] 26 (0,0)):=by
 refine⟨_,rfl,by simp,(((Below.refl _ w).alloc (Nat.le_refl _) _).alloc (by simp) _).alloc (by simp;omega) _,?_,?_,?_⟩
 ·rw[Below.heap_alloc _ _ _ (by simp;omega),Below.heap_alloc _ _ _ (by simp),heap_alloc_new]
 ·have:=heap_alloc_new (w.alloc (.cells c1 T1)) (.cells c2 T2)
  rw[World.size_alloc] at this;rw[Below.heap_alloc _ _ _ (by simp)];exact this
 ·have:=heap_alloc_new ((w.alloc (.cells c1 T1)).alloc (.cells c2 T2)) (.cells #[.int .i64 0,.bool false,.int .i64 0,.string ⟨#[]⟩,.slice none 0 0,.slice none 0 0] 26)
  rw[World.size_alloc,World.size_alloc] at this;exact this
theorem truth_c (b:Bool) (w:World):Calls prog 62 #[.bool b] w fun e w'=>e=.returned (v0 2 b 0 ⟨#[]⟩)/\Below w.heap.size w w':=by
 have hr:(w.alloc (.cells #[.int .i64 0,.bool false,.int .i64 0,.string ⟨#[]⟩,.slice none 0 0,.slice none 0 0] 26)).heap[w.heap.size]? = some (.cells #[.int .i64 0,.bool false,.int .i64 0,.string ⟨#[]⟩,.slice none 0 0,.slice none 0 0] 26 (0,0)):=heap_alloc_new w _;have hb0:Below w.heap.size w (w.alloc (.cells #[.int .i64 0,.bool false,.int .i64 0,.string ⟨#[]⟩,.slice none 0 0,.slice none 0 0] 26)):=(Below.refl _ w).alloc (Nat.le_refl _) _;obtain⟨W0,hW0⟩ : ∃ W0,w.alloc (.cells #[.int .i64 0,.bool false,.int .i64 0,.string ⟨#[]⟩,.slice none 0 0,.slice none 0 0] 26)=W0:=⟨_,rfl⟩;rw[hW0] at hr hb0;obtain⟨r0,r1,r2,r3,r4,r5⟩:=six_box hr;obtain⟨rf0,rf1,rf2,rf3,rf4,rf5⟩:=Base.frz6 hr;go_enter func62,ntmps62;go_wp2_with fail
 obtain⟨W9,hW9⟩:=stc6 W0 w.heap.size (.int .i64 2) (.bool b) (.int .i64 0) (.string ⟨#[]⟩) (.slice none 0 0) (.slice none 0 0);rw[hW9];obtain⟨q1,q2,q3,q4⟩:=set6 _ _ _ _ _ _ hr hW9;refine bodyPost_ret (results_cell_row rfl _ W9 (w.heap.size) 26 _ (0,0) _ rfl q1 underlying26 rfl (by kernel_rfl)) rfl ?_;exact⟨rfl,q4 _ _ (Nat.le_refl _) hb0⟩
theorem number_c (i:Int) (w:World):Calls prog 63 #[.int .i64 i] w fun e w'=>e=.returned (v0 3 false i ⟨#[]⟩)/\Below w.heap.size w w':=by
 have hr:(w.alloc (.cells #[.int .i64 0,.bool false,.int .i64 0,.string ⟨#[]⟩,.slice none 0 0,.slice none 0 0] 26)).heap[w.heap.size]? = some (.cells #[.int .i64 0,.bool false,.int .i64 0,.string ⟨#[]⟩,.slice none 0 0,.slice none 0 0] 26 (0,0)):=heap_alloc_new w _;have hb0:Below w.heap.size w (w.alloc (.cells #[.int .i64 0,.bool false,.int .i64 0,.string ⟨#[]⟩,.slice none 0 0,.slice none 0 0] 26)):=(Below.refl _ w).alloc (Nat.le_refl _) _;obtain⟨W0,hW0⟩ : ∃ W0,w.alloc (.cells #[.int .i64 0,.bool false,.int .i64 0,.string ⟨#[]⟩,.slice none 0 0,.slice none 0 0] 26)=W0:=⟨_,rfl⟩;rw[hW0] at hr hb0;obtain⟨r0,r1,r2,r3,r4,r5⟩:=six_box hr;obtain⟨rf0,rf1,rf2,rf3,rf4,rf5⟩:=Base.frz6 hr;go_enter func63,ntmps63;go_wp2_with fail
 obtain⟨W9,hW9⟩:=stc6 W0 w.heap.size (.int .i64 3) (.bool false) (.int .i64 i) (.string ⟨#[]⟩) (.slice none 0 0) (.slice none 0 0);rw[hW9];obtain⟨q1,q2,q3,q4⟩:=set6 _ _ _ _ _ _ hr hW9;refine bodyPost_ret (results_cell_row rfl _ W9 (w.heap.size) 26 _ (0,0) _ rfl q1 underlying26 rfl (by kernel_rfl)) rfl ?_;exact⟨rfl,q4 _ _ (Nat.le_refl _) hb0⟩
theorem text_c (s:ByteArray) (w:World):Calls prog 64 #[.string s] w fun e w'=>e=.returned (v0 4 false 0 s)/\Below w.heap.size w w':=by
 have hr:(w.alloc (.cells #[.int .i64 0,.bool false,.int .i64 0,.string ⟨#[]⟩,.slice none 0 0,.slice none 0 0] 26)).heap[w.heap.size]? = some (.cells #[.int .i64 0,.bool false,.int .i64 0,.string ⟨#[]⟩,.slice none 0 0,.slice none 0 0] 26 (0,0)):=heap_alloc_new w _;have hb0:Below w.heap.size w (w.alloc (.cells #[.int .i64 0,.bool false,.int .i64 0,.string ⟨#[]⟩,.slice none 0 0,.slice none 0 0] 26)):=(Below.refl _ w).alloc (Nat.le_refl _) _;obtain⟨W0,hW0⟩ : ∃ W0,w.alloc (.cells #[.int .i64 0,.bool false,.int .i64 0,.string ⟨#[]⟩,.slice none 0 0,.slice none 0 0] 26)=W0:=⟨_,rfl⟩;rw[hW0] at hr hb0;obtain⟨r0,r1,r2,r3,r4,r5⟩:=six_box hr;obtain⟨rf0,rf1,rf2,rf3,rf4,rf5⟩:=Base.frz6 hr;go_enter func64,ntmps64;go_wp2_with fail
 obtain⟨W9,hW9⟩:=stc6 W0 w.heap.size (.int .i64 4) (.bool false) (.int .i64 0) (.string s) (.slice none 0 0) (.slice none 0 0);rw[hW9];obtain⟨q1,q2,q3,q4⟩:=set6 _ _ _ _ _ _ hr hW9;refine bodyPost_ret (results_cell_row rfl _ W9 (w.heap.size) 26 _ (0,0) _ rfl q1 underlying26 rfl (by kernel_rfl)) rfl ?_;exact⟨rfl,q4 _ _ (Nat.le_refl _) hb0⟩
theorem must_t (w:World):Calls prog 125 #[.bool true] w fun e w'=>(∃ v,e=.returned v)/\w'=w:=by
 go_enter func125,ntmps125;go_wp2_with fail
 go_end0
 exact⟨⟨_,rfl⟩,rfl⟩
theorem must_f (w:World):Calls prog 125 #[.bool false] w fun e w'=>e=.panicked (pkE 1101)/\w'=w:=by
 unfold pkE;go_enter func125,ntmps125;go_wp2_with fail
 exact⟨rfl,rfl,rfl⟩
def An {α:Type} (w w':World) (e:Ending) (f:α->Value):Except Nat α->Prop
 | .ok x=>e=.returned (f x)/\Below w.heap.size w w'
 | .error c=>e=.panicked (pkE c)/\Below w.heap.size w w'
theorem isTrue_c (k:Int) (b:Bool) (i:Int) (s:ByteArray) (nv lv:Value) (w:World):Calls prog 85 #[vl k b i s nv lv] w fun e w'=>An w w' e (Value.bool) (if k=2 then .ok b else .error 1101):=by
 have hp:(w.alloc (.cells #[.int .i64 k,.bool b,.int .i64 i,.string s,nv,lv] 26)).heap[w.heap.size]? = some (.cells #[.int .i64 k,.bool b,.int .i64 i,.string s,nv,lv] 26 (0,0)):=heap_alloc_new w _;have hb0:Below w.heap.size w (w.alloc (.cells #[.int .i64 k,.bool b,.int .i64 i,.string s,nv,lv] 26)):=(Below.refl _ w).alloc (Nat.le_refl _) _;obtain⟨W0,hW0⟩ : ∃ W0,w.alloc (.cells #[.int .i64 k,.bool b,.int .i64 i,.string s,nv,lv] 26)=W0:=⟨_,rfl⟩;rw[hW0] at hp hb0;obtain⟨p0,p1,p2,p3,p4,p5⟩:=six_box hp;by_cases h:k=2
 ·subst h
  rw[if_pos rfl];have c:=must_t W0;have HB:=hid hb0;clear hb0 hp;go_enter func85,ntmps85;go_wp2_with fail
  try rw[hW0]
  refine c.mono ?_;rintro e w' ⟨⟨v,rfl⟩,rfl⟩;go_wp2_with fail
  go_ret
  exact⟨rfl,HB.out⟩
 ·rw[if_neg h]
  have d:(k == 2)=false:=by simp [h]
  have c:=must_f W0;have HB:=hid hb0;clear hb0 hp h;go_enter func85,ntmps85;go_wp2_with fail
  try rw[hW0]
  refine c.mono ?_;rintro e w' ⟨rfl,rfl⟩;exact⟨rfl,rfl,HB.out⟩
theorem integer_c (k:Int) (b:Bool) (i:Int) (s:ByteArray) (nv lv:Value) (w:World):Calls prog 126 #[vl k b i s nv lv] w fun e w'=>An w w' e (Value.int .i64) (if k=3 then .ok i else .error 1101):=by
 have hp:(w.alloc (.cells #[.int .i64 k,.bool b,.int .i64 i,.string s,nv,lv] 26)).heap[w.heap.size]? = some (.cells #[.int .i64 k,.bool b,.int .i64 i,.string s,nv,lv] 26 (0,0)):=heap_alloc_new w _;have hb0:Below w.heap.size w (w.alloc (.cells #[.int .i64 k,.bool b,.int .i64 i,.string s,nv,lv] 26)):=(Below.refl _ w).alloc (Nat.le_refl _) _;obtain⟨W0,hW0⟩ : ∃ W0,w.alloc (.cells #[.int .i64 k,.bool b,.int .i64 i,.string s,nv,lv] 26)=W0:=⟨_,rfl⟩;rw[hW0] at hp hb0;obtain⟨p0,p1,p2,p3,p4,p5⟩:=six_box hp;by_cases h:k=3
 ·subst h
  rw[if_pos rfl];have c:=must_t W0;have HB:=hid hb0;clear hb0 hp;go_enter func126,ntmps126;go_wp2_with fail
  try rw[hW0]
  refine c.mono ?_;rintro e w' ⟨⟨v,rfl⟩,rfl⟩;go_wp2_with fail
  go_ret
  exact⟨rfl,HB.out⟩
 ·rw[if_neg h]
  have d:(k == 3)=false:=by simp [h]
  have c:=must_f W0;have HB:=hid hb0;clear hb0 hp h;go_enter func126,ntmps126;go_wp2_with fail
  try rw[hW0]
  refine c.mono ?_;rintro e w' ⟨rfl,rfl⟩;exact⟨rfl,rfl,HB.out⟩
theorem checked_c (x e0:Int) (w:World):Calls prog 88 #[.int .i64 x,.int .i64 e0] w fun e w'=>An w w' e (fun c:Int=>v0 3 false c ⟨#[]⟩) (if e0=100 then .error 1102 else if e0=101 then .error 1103 else if e0=102 then .error 1104 else .ok x):=by
 have hr:(w.alloc (.cells #[.int .i64 0,.bool false,.int .i64 0,.string ⟨#[]⟩,.slice none 0 0,.slice none 0 0] 26)).heap[w.heap.size]? = some (.cells #[.int .i64 0,.bool false,.int .i64 0,.string ⟨#[]⟩,.slice none 0 0,.slice none 0 0] 26 (0,0)):=heap_alloc_new w _;have hb0:Below w.heap.size w (w.alloc (.cells #[.int .i64 0,.bool false,.int .i64 0,.string ⟨#[]⟩,.slice none 0 0,.slice none 0 0] 26)):=(Below.refl _ w).alloc (Nat.le_refl _) _;have hs0:(w.alloc (.cells #[.int .i64 0,.bool false,.int .i64 0,.string ⟨#[]⟩,.slice none 0 0,.slice none 0 0] 26)).heap.size=w.heap.size+1:=by simp
 obtain⟨W0,hW0⟩ : ∃ W0,w.alloc (.cells #[.int .i64 0,.bool false,.int .i64 0,.string ⟨#[]⟩,.slice none 0 0,.slice none 0 0] 26)=W0:=⟨_,rfl⟩;rw[hW0] at hr hb0 hs0;by_cases h0:e0=100
 ·subst h0
  rw[if_pos rfl];show Calls _ _ _ _ fun e w'=>An w w' e _ (.error 1102)
  unfold An pkE;have HB:=hid hb0;clear hb0 hr;go_enter func88,ntmps88;go_wp2_with fail
  try rw[hW0]
  exact⟨rfl,rfl,HB.out⟩
 by_cases h1:e0=101
 ·subst h1
  rw[if_neg (by decide)];rw[if_pos rfl];show Calls _ _ _ _ fun e w'=>An w w' e _ (.error 1103)
  unfold An pkE;have HB:=hid hb0;clear hb0 hr;go_enter func88,ntmps88;go_wp2_with fail
  try rw[hW0]
  exact⟨rfl,rfl,HB.out⟩
 by_cases h2:e0=102
 ·subst h2
  rw[if_neg (by decide)];rw[if_neg (by decide)];rw[if_pos rfl];show Calls _ _ _ _ fun e w'=>An w w' e _ (.error 1104)
  unfold An pkE;have HB:=hid hb0;clear hb0 hr;go_enter func88,ntmps88;go_wp2_with fail
  try rw[hW0]
  exact⟨rfl,rfl,HB.out⟩
 rw[if_neg h0,if_neg h1,if_neg h2];have d0:(e0 == 100)=false:=by simp [h0]
 have d1:(e0 == 101)=false:=by simp [h1]
 have d2:(e0 == 102)=false:=by simp [h2]
 have c:=number_c x W0;have HR:=hid hr;have HB:=hid hb0;clear hb0 hr h0 h1 h2;go_enter func88,ntmps88;go_wp2_with fail
 try rw[hW0]
 refine c.mono ?_;rintro e W1 ⟨rfl,hb1⟩;have hr:=(hb1.block w.heap.size (by omega)).trans HR.out;have HB1:=hid (HB.out.trans (hb1.mono HB.out.size));clear hb1 c;obtain⟨r0,r1,r2,r3,r4,r5⟩:=six_box hr;obtain⟨rf0,rf1,rf2,rf3,rf4,rf5⟩:=Base.frz6 hr;go_wp2_with fail
 obtain⟨W9,hW9⟩:=stc6 W1 w.heap.size (.int .i64 3) (.bool false) (.int .i64 x) (.string ⟨#[]⟩) (.slice none 0 0) (.slice none 0 0);rw[hW9];obtain⟨q1,q2,q3,q4⟩:=set6 _ _ _ _ _ _ hr hW9;refine bodyPost_ret (results_cell_row rfl _ W9 (w.heap.size) 26 _ (0,0) _ rfl q1 underlying26 rfl (by kernel_rfl)) rfl ?_;exact⟨rfl,q4 _ _ (Nat.le_refl _) HB1.out⟩
end Go.Proofs.YtdolgmmldncfkaaGreatDoor.VSm
namespace Go.Proofs.YtdolgmmldncfkaaGreatDoor.VIn
open Tak
open Go.RowKit Base VSm
theorem bel_d {w W0 W1:World} (h:Below w.heap.size w W0) (k:Below W0.drew.heap.size W0.drew W1):Below w.heap.size w W1:=
 (⟨h.os,h.tape,h.output,h.size,h.block⟩ : Below w.heap.size w W0.drew).trans (k.mono h.size)
theorem integers_c (k1:Int) (b1:Bool) (i1:Int) (s1:ByteArray) (n1 l1:Value) (k2:Int) (b2:Bool) (i2:Int) (s2:ByteArray) (n2 l2:Value) (w:World):Calls prog 90 #[vl k1 b1 i1 s1 n1 l1,vl k2 b2 i2 s2 n2 l2] w fun e w'=>An w w' e (fun p:Int × Int=>.tuple #[.int .i64 p.1,.int .i64 p.2]) (if k1=3 then (if k2=3 then .ok (i1,i2) else .error 1101) else .error 1101):=by
 obtain⟨W0,hW0,hs0,hb0,hp,hq⟩:=two2 w #[.int .i64 k1,.bool b1,.int .i64 i1,.string s1,n1,l1] #[.int .i64 k2,.bool b2,.int .i64 i2,.string s2,n2,l2];have HP:=hid hp;have HQ:=hid hq;have HB:=hid hb0;have hsD:W0.drew.heap.size=w.heap.size+2:=by simp [hs0]
 obtain⟨p0,p1,p2,p3,p4,p5⟩:=six_box hp;obtain⟨q0,q1,q2,q3,q4,q5⟩:=six_box hq;clear hp hq hb0;have c1:=fun W=>integer_c k1 b1 i1 s1 n1 l1 W
 have c2:=fun W=>integer_c k2 b2 i2 s2 n2 l2 W
 by_cases h1:k1=3
 ·rw[if_pos h1] at c1
  rw[if_pos h1];clear h1;by_cases h2:k2=3
  ·rw[if_pos h2] at c2
   rw[if_pos h2];clear h2;go_enter func90,ntmps90;go_wp2_with fail
   try rw[hW0]
   refine rh12 w.heap.size (w.heap.size+1) k1 b1 i1 s1 n1 l1 k2 b2 i2 s2 n2 l2 (by kernel_rfl) (by first | assumption | go_keep) (fun hHeld=>?_);refine tkH 0 rfl ?_;try simp only [ptH]
   refine tkH 2 rfl ?_;try simp only [ptH]
   refine rdH [1] ?_;refine alH rfl fun K hK=>?_
   go_simp
   refine (c1 _).mono ?_;rintro e W1 ⟨rfl,hb1⟩;have hp1:=(hb1.block w.heap.size (by rw[hsD];omega)).trans HP.out;have hq1:=(hb1.block (w.heap.size+1) (by rw[hsD];omega)).trans HQ.out;obtain⟨x0,x1,x2,x3,x4,x5⟩:=six_box hp1;obtain⟨y0,y1,y2,y3,y4,y5⟩:=six_box hq1;have HB1:=hid (bel_d HB.out hb1);have HP1:=hid hp1;have HQ1:=hid hq1;have hs1:=hb1.size;rw[hsD] at hs1;clear hp1 hq1 hb1;go_wp2_with fail
   refine hK.out _ _ (by first | assumption | go_keep) (fun hHeld=>?_);clear hK K;try simp only [ptH]
   refine rdH [3] ?_;refine alH rfl fun K hK=>?_
   go_simp
   refine (c2 _).mono ?_;rintro e W2 ⟨rfl,hb2⟩;obtain⟨z0,z1,z2,z3,z4,z5⟩:=six_box ((hb2.block w.heap.size (by omega)).trans HP1.out);obtain⟨t0,t1,t2,t3,t4,t5⟩:=six_box ((hb2.block (w.heap.size+1) (by omega)).trans HQ1.out);have HB2:=hid (HB1.out.trans (hb2.mono HB1.out.size));clear hb2;go_wp2_with fail
   refine hK.out _ _ (by first | assumption | go_keep) (fun hHeld=>?_);clear hK K;try simp only [ptH]
   refine tkH 4 rfl ?_;try simp only [ptH]
   refine tkH 5 rfl ?_;try simp only [ptH]
   refine dnH ?_;go_wp2_with fail
   go_ret2
   exact⟨rfl,HB2.out⟩
  ·rw[if_neg h2] at c2
   rw[if_neg h2];clear h2;go_enter func90,ntmps90;go_wp2_with fail
   try rw[hW0]
   refine rh12 w.heap.size (w.heap.size+1) k1 b1 i1 s1 n1 l1 k2 b2 i2 s2 n2 l2 (by kernel_rfl) (by first | assumption | go_keep) (fun hHeld=>?_);refine tkH 0 rfl ?_;try simp only [ptH]
   refine tkH 2 rfl ?_;try simp only [ptH]
   refine rdH [1] ?_;refine alH rfl fun K hK=>?_
   go_simp
   refine (c1 _).mono ?_;rintro e W1 ⟨rfl,hb1⟩;have hp1:=(hb1.block w.heap.size (by rw[hsD];omega)).trans HP.out;have hq1:=(hb1.block (w.heap.size+1) (by rw[hsD];omega)).trans HQ.out;obtain⟨x0,x1,x2,x3,x4,x5⟩:=six_box hp1;obtain⟨y0,y1,y2,y3,y4,y5⟩:=six_box hq1;have HB1:=hid (bel_d HB.out hb1);have HP1:=hid hp1;have HQ1:=hid hq1;have hs1:=hb1.size;rw[hsD] at hs1;clear hp1 hq1 hb1;go_wp2_with fail
   refine hK.out _ _ (by first | assumption | go_keep) (fun hHeld=>?_);clear hK K;try simp only [ptH]
   refine rdH [3] ?_;refine alH rfl fun K hK=>?_
   go_simp
   refine (c2 _).mono ?_;rintro e W2 ⟨rfl,hb2⟩;exact⟨rfl,rfl,HB1.out.trans (hb2.mono HB1.out.size)⟩
 ·rw[if_neg h1] at c1
  rw[if_neg h1];clear h1;go_enter func90,ntmps90;go_wp2_with fail
  try rw[hW0]
  refine rh12 w.heap.size (w.heap.size+1) k1 b1 i1 s1 n1 l1 k2 b2 i2 s2 n2 l2 (by kernel_rfl) (by first | assumption | go_keep) (fun hHeld=>?_);refine tkH 0 rfl ?_;try simp only [ptH]
  refine tkH 2 rfl ?_;try simp only [ptH]
  refine rdH [1] ?_;refine alH rfl fun K hK=>?_
  go_simp
  refine (c1 _).mono ?_;rintro e W1 ⟨rfl,hb1⟩;exact⟨rfl,rfl,bel_d HB.out hb1⟩
end Go.Proofs.YtdolgmmldncfkaaGreatDoor.VIn
namespace Go.Proofs.YtdolgmmldncfkaaGreatDoor.VEx
open Go.RowKit
theorem ex_then {K:Act->World->Prop} {Q:Exit->Act->World->Prop} {n:Nat} {a:Act} {w:World} (h:Q (.exit n) a w):Exit.then K Q (.exit n) a w:=h
theorem ex_skip {m n:Nat} {Q:Exit->Act->World->Prop} {a:Act} {w:World} (hn : ¬ n=m) (h:Q (.exit n) a w):Exit.inBlock m Q (.exit n) a w:=by
 show (if n=m then Q .normal a w else Q (.exit n) a w);rw[if_neg hn];exact h
theorem ex_hit {n:Nat} {Q:Exit->Act->World->Prop} {a:Act} {w:World} (h:Q .normal a w):Exit.inBlock n Q (.exit n) a w:=by
 show (if n=n then Q .normal a w else Q (.exit n) a w);rw[if_pos rfl];exact h
theorem ex_norm {K:Act->World->Prop} {Q:Exit->Act->World->Prop} {a:Act} {w:World} (h:K a w):Exit.then K Q .normal a w:=h
theorem rt_then {K:Act->World->Prop} {Q:Exit->Act->World->Prop} {a:Act} {w:World} (h:Q .ret a w):Exit.then K Q .ret a w:=h
theorem rt_blk {m:Nat} {Q:Exit->Act->World->Prop} {a:Act} {w:World} (h:Q .ret a w):Exit.inBlock m Q .ret a w:=h
theorem pn_then {K:Act->World->Prop} {Q:Exit->Act->World->Prop} {c:List PanicEntry} {a:Act} {w:World} (h:Q (.panic c) a w):Exit.then K Q (.panic c) a w:=h
theorem pn_blk {m:Nat} {Q:Exit->Act->World->Prop} {c:List PanicEntry} {a:Act} {w:World} (h:Q (.panic c) a w):Exit.inBlock m Q (.panic c) a w:=h
def Out (B:Exit->Act->World->Prop):Exit->Act->World->Prop
 | .ret,a,w=>B .ret a w
 | .panic c,a,w=>B (.panic c) a w
 | _,_,_=>False
theorem out_mono {B Q:Exit->Act->World->Prop} (hr:∀ a w,B .ret a w->Q .ret a w) (hp:∀ c a w,B (.panic c) a w->Q (.panic c) a w):∀ e a w,Out B e a w->Q e a w:=by
 intro e a w h;cases e with
 | ret=>exact hr a w h
 | panic c=>exact hp c a w h
 | _=>exact h.elim
theorem out_ret {P:Program} {fn:Func} {R:Ending->World->Prop} {a:Act} {w:World} {v:Value} (hr:(results fn a.tmps).run P w=.ok v w) (hd:a.defers=[]) (hR:R (.returned v) w):Out (bodyPost P fn R) .ret a w:=bodyPost_ret hr hd hR
end Go.Proofs.YtdolgmmldncfkaaGreatDoor.VEx
namespace Go.Proofs.YtdolgmmldncfkaaGreatDoor.Same
open Go.RowKit Base Go.Proofs.YtdolgmmldncfkaaGreatDoor.Eq
def SameIs (m:Nat):Prop:=∀ (u v:Value) (c d:C) (w:World),In false All w m u c->In false All w m v d ->
  Calls prog 100 #[u,v] w fun e w'=>e=.returned (.bool (same c d))/\Below w.heap.size w w'
theorem eqF_of (m:Nat) (hm:SameIs m) (u v:Value) (L M:List C) (w:World) (hu:InL false All w m u L) (hv:InL false All w m v M) :
  Calls prog 137 #[u,v,.func (.func 100) #[] #[]] w fun e w'=>e=.returned (.bool (sameL L M))/\Below w.heap.size w w':=by
 obtain⟨a,cap,rfl,hlc,hcm,hlen,hnil,hN⟩:=hu.out;obtain⟨a',cap',rfl,hlc',hm',hlen',hnil',hN'⟩:=hv.out;clear hu hv;by_cases hne:L.length=M.length
 ·have HI:=sameL_iff hne
  generalize sameL L M=R at *
  have hne':((L.length:Int) != (M.length:Int))=false:=by simp;omega
  have HH:=hid HI;have hle1:L.length<=M.length:=by omega
  have hle2:M.length<=L.length:=by omega
  clear HI hne;go_enter func137,ntmps137;go_wp2_with fail
  go_loopw [17] (fun i wr=>∃ q:Nat,q<=L.length/\i=.int .i64 q/\(∀ j (h1:j<L.length) (h2:j<M.length),j<q->same L[j] M[j]=true)/\Below w.heap.size w wr) (fun i _=>L.length - (intOf i).toNat)
  case atStart=>exact⟨0,by omega,rfl,fun j _ _ h=>by omega,Below.refl _ _⟩
  case round=>
   obtain⟨q,hq,rfl,hall,hb⟩:=hrel;by_cases hlt:q<L.length
   ·have hlt2:q<M.length:=by omega
    obtain⟨g,o,x,rfl,-,hx,hin⟩:=elem_at hN hlt;obtain⟨g',o',y,rfl,-,hy,hin'⟩:=elem_at hN' hlt2;have hx:=six_below hx hb;have hy:=six_below hy hb;obtain⟨x0,x1,x2,x3,x4,x5,rfl,d0,d1,d2,d3,d4,d5⟩:=hx;obtain⟨y0,y1,y2,y3,y4,y5,rfl,e0,e1,e2,e3,e4,e5⟩:=hy;obtain⟨a1,n1,c1,a2,n2,c2,rfl,rfl,rfl,rfl,rfl,rfl⟩:=hin.kinds;obtain⟨p1,q1,r1,p2,q2,r2,rfl,rfl,rfl,rfl,rfl,rfl⟩:=hin'.kinds;generalize L[q].k=kk,L[q].b=bb,L[q].i=ii,L[q].s=ss,M[q].k=kk',M[q].b=bb',M[q].i=ii',M[q].s=ss' at *
    have hg':=cell_lt e0;have hb2:Below wr.heap.size wr ((wr.alloc (.cells #[.int .i64 kk,.bool bb,.int .i64 ii,.string ss,.slice a1 n1 c1,.slice a2 n2 c2] 26)).alloc (.cells #[.int .i64 kk',.bool bb',.int .i64 ii',.string ss',.slice p1 q1 r1,.slice p2 q2 r2] 26)):=((Below.refl _ wr).alloc (Nat.le_refl _) _).alloc (by simp) _;have c20:=hm _ _ L[q] M[q] _ ((hin.below hb).below hb2) ((hin'.below hb).below hb2);have HA:=hid hall;obtain⟨x,hx⟩ : ∃ x,same L[q] M[q]=x:=⟨_,rfl⟩;have HX:=hid hx;rw[hx] at c20;clear hN hN' hall hx hin hin' hm;go_wp2_with fail
    refine c20.mono ?_;rintro e w1 ⟨rfl,b1⟩;have hb3:=nx (nx hb hb2) b1;clear hb2 b1 c20;cases x with
    | true=>
     go_wp2_with fail
     go_roundw
     case rel=>
      refine⟨q+1,by omega,by go_num,fun j h1 h2 hj=>?_,hb3⟩;by_cases e:j=q
      ·subst e
       exact HX.out
      ·exact HA.out j h1 h2 (by omega)
     case measure=>simp only [intOf];omega
    | false=>
     have hR:R=false:=false_of fun h=>by
      have:=HH.out.1 h q hlt hlt2;rw[HX.out] at this;cases this
     subst hR;go_wp2_with fail
     go_ret
     exact⟨rfl,hb3⟩
   ·have hlt':decide ((q:Int)<(L.length:Int))=false:=by simp;omega
    have hR:R=true:=HH.out.2 fun j h1 h2=>hall j h1 h2 (by omega)
    subst hR;clear hall;go_wp2_with fail
    go_ret
    exact⟨rfl,hb⟩
 ·rw[sameL_len hne]
  have hne':((L.length:Int) != (M.length:Int))=true:=by simp;omega
  go_enter func137,ntmps137;go_wp2_with fail
  go_ret
  exact⟨rfl,Below.refl _ _⟩
theorem same_of (m:Nat) (hm:∀ (u v:Value) (L M:List C) (w:World),InL false All w m u L->InL false All w m v M ->
   Calls prog 137 #[u,v,.func (.func 100) #[] #[]] w fun e w'=>e=.returned (.bool (sameL L M))/\Below w.heap.size w w'):SameIs (m+1):=by
 intro u v c d w hu hv;obtain⟨k,b,i,s,n,l⟩:=c;obtain⟨k',b',i',s',n',l'⟩:=d;rw[in_iff] at hu hv;obtain⟨nv,lv,rfl,-,-,-,hn,hl⟩:=hu;obtain⟨nv',lv',rfl,-,-,-,hn',hl'⟩:=hv;obtain⟨W0,hW0⟩ : ∃ W0,(w.alloc (.cells #[.int .i64 k,.bool b,.int .i64 i,.string s,nv,lv] 26)).alloc (.cells #[.int .i64 k',.bool b',.int .i64 i',.string s',nv',lv'] 26)=W0:=⟨_,rfl⟩;have hb0:Below w.heap.size w W0:=by rw[<- hW0];exact ((Below.refl _ w).alloc (Nat.le_refl _) _).alloc (by simp) _
 have hsz0:W0.heap.size=w.heap.size+2:=by rw[<- hW0];simp
 have hx0:W0.heap[w.heap.size]? = some (.cells #[.int .i64 k,.bool b,.int .i64 i,.string s,nv,lv] 26):=by
  rw[<- hW0,Below.heap_alloc _ _ _ (by simp),heap_alloc_new]
 have hx1:W0.heap[w.heap.size+1]? = some (.cells #[.int .i64 k',.bool b',.int .i64 i',.string s',nv',lv'] 26):=by
  have:=heap_alloc_new (w.alloc (.cells #[.int .i64 k,.bool b,.int .i64 i,.string s,nv,lv] 26)) (.cells #[.int .i64 k',.bool b',.int .i64 i',.string s',nv',lv'] 26);rwa [hW0,World.size_alloc] at this
 obtain⟨d0,d1,d2,d3,d4,d5⟩:=six_box hx0;obtain⟨e0,e1,e2,e3,e4,e5⟩:=six_box hx1;by_cases hk : ¬ k=k'
 ·have hk':(k != k')=true:=by simp [hk]
  have e:same (.mk k b i s n l) (.mk k' b' i' s' n' l')=false:=by simp [same, hk]
  rw[e];clear e;go_enter func100,ntmps100;go_wp2_with fail
  go_ret
  exact⟨rfl,hb0⟩
 have hk:=Decidable.of_not_not hk;subst hk;by_cases h2:k=2
 ·subst h2
  have e:same (.mk 2 b i s n l) (.mk 2 b' i' s' n' l')=(b == b'):=by simp [same]
  rw[e];clear e;go_enter func100,ntmps100;go_wp2_with fail
  go_ret
  exact⟨rfl,hb0⟩
 by_cases h3:k=3
 ·subst h3
  have e:same (.mk 3 b i s n l) (.mk 3 b' i' s' n' l')=(i == i'):=by simp [same]
  rw[e];clear e;go_enter func100,ntmps100;go_wp2_with fail
  go_ret
  exact⟨rfl,hb0⟩
 by_cases h4:k=4
 ·subst h4
  have e:same (.mk 4 b i s n l) (.mk 4 b' i' s' n' l')=(s.toList == s'.toList):=by simp [same, eqB]
  rw[e];clear e;go_enter func100,ntmps100;go_wp2_with fail
  go_ret
  exact⟨rfl,hb0⟩
 have h2':(k == 2)=false:=by simp [h2]
 have h3':(k == 3)=false:=by simp [h3]
 have h4':(k == 4)=false:=by simp [h4]
 by_cases h5:k=5
 ·subst h5
  have e:same (.mk 5 b i s n l) (.mk 5 b' i' s' n' l')=sameL l l':=by simp [same]
  rw[e];have c42:=hm lv lv' l l' W0 (hl.below hb0) (hl'.below hb0);generalize sameL l l'=R at *
  clear e hm hx0 hx1;go_enter func100,ntmps100;go_wp2_with (first | (go_at_call 137;refine c42.mono ?_;rintro e w1 ⟨rfl,b1⟩))
  go_ret
  exact⟨rfl,nx hb0 b1⟩
 have h5':(k == 5)=false:=by simp [h5]
 by_cases h6:k=6
 ·subst h6
  have e:same (.mk 6 b i s n l) (.mk 6 b' i' s' n' l')=(eqN n n' && sameL l l'):=by simp [same]
  rw[e];have c43:=eqT_c nv nv' n n' W0 (hn.below hb0) (hn'.below hb0);generalize eqN n n'=T at *
  have hm:=fun w h1 h2=>hm lv lv' l l' w h1 h2
  generalize sameL l l'=R at *
  clear e;go_enter func100,ntmps100;go_wp2_with fail
  refine c43.mono ?_;rintro e w1 ⟨rfl,b1⟩;have k5:=(six_box ((b1.block w.heap.size (by omega)).trans hx0)).2.2.2.2.2;have j5:=(six_box ((b1.block (w.heap.size+1) (by omega)).trans hx1)).2.2.2.2.2;have c42:=hm w1 ((hl.below hb0).below b1) ((hl'.below hb0).below b1);clear c43 hx0 hx1 hW0 hm;cases T with
  | false=>
   go_wp2_with fail
   go_ret
   exact⟨rfl,nx hb0 b1⟩
  | true=>
   go_wp2_with (first | (go_at_call 137;refine c42.mono ?_;rintro e w2 ⟨rfl,b2⟩))
   go_ret
   exact⟨by simp,nx (nx hb0 b1) b2⟩
 have h6':(k == 6)=false:=by simp [h6]
 have e:same (.mk k b i s n l) (.mk k b' i' s' n' l')=true:=by simp [same, h2, h3, h4, h5, h6]
 rw[e];clear e;go_enter func100,ntmps100;go_wp2_with fail
 go_ret
 exact⟨rfl,hb0⟩
theorem sames:∀ m,SameIs m:=by
 intro m;induction m with
 | zero=>intro u v c d w h;rw[In] at h;exact h.elim
 | succ m ih=>exact same_of m (eqF_of m ih)
theorem same_c {m m':Nat} {u v:Value} {c d:C} {w:World} (hu:In false All w m u c) (hv:In false All w m' v d) :
  Calls prog 100 #[u,v] w fun e w'=>e=.returned (.bool (same c d))/\Below w.heap.size w w':=
 sames (max m m') u v c d w (hu.weak (fun _ h=>h) false id _ (Nat.le_max_left _ _)) (hv.weak (fun _ h=>h) false id _ (Nat.le_max_right _ _))
end Go.Proofs.YtdolgmmldncfkaaGreatDoor.Same

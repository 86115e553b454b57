import Derived.Test.YtdolgmmldncfkaaGreatDoorPJ04
import Derived.Test.YtdolgmmldncfkaaGreatDoorPJ25
import Derived.Test.YtdolgmmldncfkaaGreatDoorPJ26
open Go.Proofs.Tryz
set_option linter.unusedVariables false
set_option maxRecDepth 20000
set_option maxHeartbeats 3200000
namespace Go.Proofs.YtdolgmmldncfkaaGreatDoor.KEn
open Tak
open Go.RowKit Base KBase KAr
open XBase (frozen_box)
theorem enter_low {k:Int} {t:ByteArray} {a1:Option Addr} {n1 c1:Nat} {a2:Option Addr} {n2 c2:Nat} {a3:Option Addr} {n3 c3:Nat} {a4:Option Addr} {n4 c4:Nat} {a5:Option Addr} {n5 c5:Nat} {s e l:Int} {w:World} (hk:k<1) :
  Calls prog 102 #[av s e l,cv k t a1 n1 c1 a2 n2 c2 a3 n3 c3 a4 n4 c4 a5 n5 c5] w fun x w'=>x=.returned (.tuple #[av s e l,.bool false])/\Below w.heap.size w w':=by
 have h1:decide (k<1)=true:=decide_eq_true hk;obtain⟨W0,hW0⟩ : ∃ W0,(((w.alloc (.cells #[.int .i64 s,.int .i64 e,.int .i64 l] 109)).alloc (.cells #[.int .i64 k,.string t,.slice a1 n1 c1,.slice a2 n2 c2,.slice a3 n3 c3,.slice a4 n4 c4,.slice a5 n5 c5] 42)).alloc (.cells #[.int .i64 s,.int .i64 e,.int .i64 l] 109)).alloc (.cells #[.nilFunc,.func (.func 141) #[] #[],.func (.func 142) #[] #[],.func (.func 143) #[] #[],.func (.func 144) #[] #[],.func (.func 145) #[] #[]] 189)=W0:=⟨_,rfl⟩;have b0:Below w.heap.size w W0:=by
  rw[<- hW0];exact ((((Below.refl _ w).alloc (Nat.le_refl _) _).alloc (by simp) _).alloc (by simp;omega) _).alloc (by simp;omega) _
 have q2:W0.heap[w.heap.size+1+1]? = some (.cells #[.int .i64 s,.int .i64 e,.int .i64 l] 109 (0,0)):=by
  rw[<- hW0,Below.heap_alloc _ _ _ (by simp)];exact KLe.heap_alloc_at _ _ _ (by simp)
 obtain⟨t0,t1,t2⟩:=three_box q2;have HB0:=hid b0;clear b0 q2;go_enter func102,ntmps102;go_wp2_with fail
 try rw[hW0]
 refine bodyPost_ret (v:=.tuple #[av s e l,.bool false]) (by simp [results, results102, go_sem, t0, t1, t2]) rfl ?_;exact⟨rfl,HB0.out⟩
theorem enter_high {k:Int} {t:ByteArray} {a1:Option Addr} {n1 c1:Nat} {a2:Option Addr} {n2 c2:Nat} {a3:Option Addr} {n3 c3:Nat} {a4:Option Addr} {n4 c4:Nat} {a5:Option Addr} {n5 c5:Nat} {s e l:Int} {w:World} (hk:6<=k) :
  Calls prog 102 #[av s e l,cv k t a1 n1 c1 a2 n2 c2 a3 n3 c3 a4 n4 c4 a5 n5 c5] w fun x w'=>x=.returned (.tuple #[av s e l,.bool false])/\Below w.heap.size w w':=by
 have h1:decide (k<1)=false:=decide_eq_false (by omega);have h2:decide (6<=k)=true:=decide_eq_true hk;obtain⟨W0,hW0⟩ : ∃ W0,(((w.alloc (.cells #[.int .i64 s,.int .i64 e,.int .i64 l] 109)).alloc (.cells #[.int .i64 k,.string t,.slice a1 n1 c1,.slice a2 n2 c2,.slice a3 n3 c3,.slice a4 n4 c4,.slice a5 n5 c5] 42)).alloc (.cells #[.int .i64 s,.int .i64 e,.int .i64 l] 109)).alloc (.cells #[.nilFunc,.func (.func 141) #[] #[],.func (.func 142) #[] #[],.func (.func 143) #[] #[],.func (.func 144) #[] #[],.func (.func 145) #[] #[]] 189)=W0:=⟨_,rfl⟩;have b0:Below w.heap.size w W0:=by
  rw[<- hW0];exact ((((Below.refl _ w).alloc (Nat.le_refl _) _).alloc (by simp) _).alloc (by simp;omega) _).alloc (by simp;omega) _
 have q2:W0.heap[w.heap.size+1+1]? = some (.cells #[.int .i64 s,.int .i64 e,.int .i64 l] 109 (0,0)):=by
  rw[<- hW0,Below.heap_alloc _ _ _ (by simp)];exact KLe.heap_alloc_at _ _ _ (by simp)
 obtain⟨t0,t1,t2⟩:=three_box q2;have HB0:=hid b0;clear b0 q2;go_enter func102,ntmps102;go_wp2_with fail
 try rw[hW0]
 refine bodyPost_ret (v:=.tuple #[av s e l,.bool false]) (by simp [results, results102, go_sem, t0, t1, t2]) rfl ?_;exact⟨rfl,HB0.out⟩
theorem enter_text {t:ByteArray} {a1:Option Addr} {n1 c1:Nat} {a2:Option Addr} {n2 c2:Nat} {a3:Option Addr} {n3 c3:Nat} {a4:Option Addr} {n4 c4:Nat} {a5:Option Addr} {n5 c5:Nat} {s e l:Int} {w:World} {s' e' l':Int} {z:Bool} (hc:∀ W,Below w.heap.size w W->Calls prog 141 #[av s e l,cv 1 t a1 n1 c1 a2 n2 c2 a3 n3 c3 a4 n4 c4 a5 n5 c5] W fun x w'=>x=.returned (.tuple #[av s' e' l',.bool z])/\Below W.heap.size W w') :
  Calls prog 102 #[av s e l,cv 1 t a1 n1 c1 a2 n2 c2 a3 n3 c3 a4 n4 c4 a5 n5 c5] w fun x w'=>x=.returned (.tuple #[av s' e' l',.bool z])/\Below w.heap.size w w':=by
 obtain⟨W0,hW0⟩ : ∃ W0,(((w.alloc (.cells #[.int .i64 s,.int .i64 e,.int .i64 l] 109)).alloc (.cells #[.int .i64 1,.string t,.slice a1 n1 c1,.slice a2 n2 c2,.slice a3 n3 c3,.slice a4 n4 c4,.slice a5 n5 c5] 42)).alloc (.cells #[.int .i64 0,.int .i64 0,.int .i64 0] 109)).alloc (.cells #[.nilFunc,.func (.func 141) #[] #[],.func (.func 142) #[] #[],.func (.func 143) #[] #[],.func (.func 144) #[] #[],.func (.func 145) #[] #[]] 189)=W0:=⟨_,rfl⟩;have hsz:W0.heap.size=w.heap.size+4:=by rw[<- hW0];simp
 have hsD:W0.drew.heap.size=w.heap.size+4:=by simp [hsz]
 have HBa:Hid (Below w.heap.size w W0):=by
  rw[<- hW0];exact ((((Below.refl _ w).alloc (Nat.le_refl _) _).alloc (by simp) _).alloc (by simp;omega) _).alloc (by simp;omega) _
 have HAa:Hid (W0.heap[w.heap.size]? = some (.cells #[.int .i64 s,.int .i64 e,.int .i64 l] 109 (0,0))):=by
  rw[<- hW0];iterate 3 rw[Below.heap_alloc _ _ _ (by simp;try omega)]
  exact KLe.heap_alloc_at _ _ _ (by simp)
 have HCa:Hid (W0.heap[w.heap.size+1]? = some (.cells #[.int .i64 1,.string t,.slice a1 n1 c1,.slice a2 n2 c2,.slice a3 n3 c3,.slice a4 n4 c4,.slice a5 n5 c5] 42 (0,0))):=by
  rw[<- hW0];iterate 2 rw[Below.heap_alloc _ _ _ (by simp;try omega)]
  exact KLe.heap_alloc_at _ _ _ (by simp)
 have HRa:Hid (W0.heap[w.heap.size+1+1]? = some (.cells #[.int .i64 0,.int .i64 0,.int .i64 0] 109 (0,0))):=by
  rw[<- hW0];iterate 1 rw[Below.heap_alloc _ _ _ (by simp;try omega)]
  exact KLe.heap_alloc_at _ _ _ (by simp)
 have HTa:Hid (W0.heap[w.heap.size+1+1+1]? = some (.cells #[.nilFunc,.func (.func 141) #[] #[],.func (.func 142) #[] #[],.func (.func 143) #[] #[],.func (.func 144) #[] #[],.func (.func 145) #[] #[]] 189 (0,0))):=by
  rw[<- hW0];exact KLe.heap_alloc_at _ _ _ (by simp)
 have HS:Hid (∀ w':World,w'.heap[w.heap.size]? = some (.cells #[.int .i64 s,.int .i64 e,.int .i64 l] 109 (0,0))->w'.heap[w.heap.size+1]? = some (.cells #[.int .i64 1,.string t,.slice a1 n1 c1,.slice a2 n2 c2,.slice a3 n3 c3,.slice a4 n4 c4,.slice a5 n5 c5] 42 (0,0))->w'.heap[w.heap.size+1+1+1]? = some (.cells #[.nilFunc,.func (.func 141) #[] #[],.func (.func 142) #[] #[],.func (.func 143) #[] #[],.func (.func 144) #[] #[],.func (.func 145) #[] #[]] 189 (0,0))->w'.cell? ⟨w.heap.size,0,none⟩=some (.int .i64 s)/\w'.cell? ⟨w.heap.size,1,none⟩=some (.int .i64 e)/\w'.cell? ⟨w.heap.size,2,none⟩=some (.int .i64 l)/\w'.cell? ⟨w.heap.size+1,0,none⟩=some (.int .i64 1)/\w'.cell? ⟨w.heap.size+1,1,none⟩=some (.string t)/\w'.cell? ⟨w.heap.size+1,2,none⟩=some (.slice a1 n1 c1)/\w'.cell? ⟨w.heap.size+1,3,none⟩=some (.slice a2 n2 c2)/\w'.cell? ⟨w.heap.size+1,4,none⟩=some (.slice a3 n3 c3)/\w'.cell? ⟨w.heap.size+1,5,none⟩=some (.slice a4 n4 c4)/\w'.cell? ⟨w.heap.size+1,6,none⟩=some (.slice a5 n5 c5)/\w'.cell? ⟨w.heap.size+1+1+1,1,none⟩=some (.func (.func 141) #[] #[])):=by
  intro w' hA hC hT;obtain⟨p0,p1,p2⟩:=three_box hA;obtain⟨q0,q1,q2,q3,q4,q5,q6⟩:=seven_box hC;exact⟨p0,p1,p2,q0,q1,q2,q3,q4,q5,q6,by simp [World.cell?, hT]⟩
 have HSa:=hid (HS.out W0 HAa.out HCa.out HTa.out);obtain⟨a0_,a1_,a2_,a3_,a4_,a5_,a6_,a7_,a8_,a9_,a10_⟩:=HSa.out;go_enter func102,ntmps102;go_wp2_with fail
 try rw[hW0]
 refine wp_region_held_drew (S:=(fun w'=>w'.cell? ⟨w.heap.size,0,none⟩=some (.int .i64 s)/\w'.cell? ⟨w.heap.size,1,none⟩=some (.int .i64 e)/\w'.cell? ⟨w.heap.size,2,none⟩=some (.int .i64 l)/\w'.cell? ⟨w.heap.size+1,0,none⟩=some (.int .i64 1)/\w'.cell? ⟨w.heap.size+1,1,none⟩=some (.string t)/\w'.cell? ⟨w.heap.size+1,2,none⟩=some (.slice a1 n1 c1)/\w'.cell? ⟨w.heap.size+1,3,none⟩=some (.slice a2 n2 c2)/\w'.cell? ⟨w.heap.size+1,4,none⟩=some (.slice a3 n3 c3)/\w'.cell? ⟨w.heap.size+1,5,none⟩=some (.slice a4 n4 c4)/\w'.cell? ⟨w.heap.size+1,6,none⟩=some (.slice a5 n5 c5)/\w'.cell? ⟨w.heap.size+1+1+1,1,none⟩=some (.func (.func 141) #[] #[]))) (by kernel_rfl) (by exact HSa.out) (fun hHeld=>?_);refine wpAnyH_take (i:=0) (v:=?_) rfl (by kernel_rfl) (by kernel_rfl) (by kernel_rfl) (fun _ _ _ h=>h) (Or.inl ⟨by rfl,?_⟩) (by assumption) ?_;rotate_left 1
 ·intro w hSw;(try dsimp only at hSw);go_simp;first | done | with_reducible rfl | (rw[if_neg (by omega)])
 try simp only [Act.put, zA, zB, zD, zE, zF]
 refine tkH 1 rfl ?_;try simp only [ptH]
 refine tkH 2 rfl ?_;try simp only [ptH]
 refine tkH 3 rfl ?_;try simp only [ptH]
 refine tkH 4 rfl ?_;try simp only [ptH]
 refine tkH 5 rfl ?_;try simp only [ptH]
 refine tkH 6 rfl ?_;try simp only [ptH]
 refine rdH [7] ?_;refine AllReadyH.cons rfl (fun K hK=>?_) AllReadyH.nil;go_simp
 refine (hc _ (HBa.out.trans (Below.refl _ W0).drew)).mono ?_;rintro x W5 ⟨rfl,b5⟩;have hs5:=b5.size;rw[hsD] at hs5;have HBb:=hid ((HBa.out.trans (Below.refl _ W0).drew).trans (b5.mono HBa.out.size));have b6:Below W0.heap.size W0 W5:=((Below.refl _ W0).drew).trans b5;have HAb:=hid ((b6.block (w.heap.size) (by omega)).trans HAa.out);have HCb:=hid ((b6.block (w.heap.size+1) (by omega)).trans HCa.out);have HRb:=hid ((b6.block (w.heap.size+1+1) (by omega)).trans HRa.out);have HTb:=hid ((b6.block (w.heap.size+1+1+1) (by omega)).trans HTa.out);have HSb:=hid (HS.out W5 HAb.out HCb.out HTb.out);clear b5 b6;go_wp2_with fail
 refine hK.out _ _ (by exact HSb.out) (fun hHeld=>?_);clear hK K;try simp only [ptH]
 refine tkH 8 rfl ?_;try simp only [ptH]
 refine tkH 9 rfl ?_;try simp only [ptH]
 obtain⟨r0,r1,r2⟩:=three_box HRb.out;have rf0:=XBase.frozen_box HRb.out 0;have rf1:=XBase.frozen_box HRb.out 1;have rf2:=XBase.frozen_box HRb.out 2;obtain⟨W9,hW9⟩:=stc3 W5 (w.heap.size+1+1) (.int .i64 s') (.int .i64 e') (.int .i64 l');obtain⟨s1,s2,s3⟩:=set3 _ _ _ HRb.out hW9;have HSc:=hid (HS.out W9 ((s3 _ (by omega)).trans HAb.out) ((s3 _ (by omega)).trans HCb.out) ((s3 _ (by omega)).trans HTb.out));obtain⟨t0,t1,t2⟩:=three_box s1;have HB9:=hid (s2 _ _ (by omega) HBb.out);clear s1 s2 s3;refine rdH [10] ?_;refine AllReadyH.cons rfl (fun K hK=>?_) AllReadyH.nil;go_simp
 go_wp2_with fail
 try rw[hW9]
 refine hK.out _ _ (by exact HSc.out) (fun hHeld=>?_);clear hK K;try simp only [ptH]
 refine tkH 11 rfl ?_;try simp only [ptH]
 refine dnH ?_;go_wp2_with fail
 refine bodyPost_ret (v:=.tuple #[av s' e' l',.bool z]) (by simp [results, results102, go_sem, t0, t1, t2]) rfl ?_;exact⟨rfl,HB9.out⟩
theorem enter_element {t:ByteArray} {a1:Option Addr} {n1 c1:Nat} {a2:Option Addr} {n2 c2:Nat} {a3:Option Addr} {n3 c3:Nat} {a4:Option Addr} {n4 c4:Nat} {a5:Option Addr} {n5 c5:Nat} {s e l:Int} {w:World} {s' e' l':Int} {z:Bool} (hc:∀ W,Below w.heap.size w W->Calls prog 142 #[av s e l,cv 2 t a1 n1 c1 a2 n2 c2 a3 n3 c3 a4 n4 c4 a5 n5 c5] W fun x w'=>x=.returned (.tuple #[av s' e' l',.bool z])/\Below W.heap.size W w') :
  Calls prog 102 #[av s e l,cv 2 t a1 n1 c1 a2 n2 c2 a3 n3 c3 a4 n4 c4 a5 n5 c5] w fun x w'=>x=.returned (.tuple #[av s' e' l',.bool z])/\Below w.heap.size w w':=by
 obtain⟨W0,hW0⟩ : ∃ W0,(((w.alloc (.cells #[.int .i64 s,.int .i64 e,.int .i64 l] 109)).alloc (.cells #[.int .i64 2,.string t,.slice a1 n1 c1,.slice a2 n2 c2,.slice a3 n3 c3,.slice a4 n4 c4,.slice a5 n5 c5] 42)).alloc (.cells #[.int .i64 0,.int .i64 0,.int .i64 0] 109)).alloc (.cells #[.nilFunc,.func (.func 141) #[] #[],.func (.func 142) #[] #[],.func (.func 143) #[] #[],.func (.func 144) #[] #[],.func (.func 145) #[] #[]] 189)=W0:=⟨_,rfl⟩;have hsz:W0.heap.size=w.heap.size+4:=by rw[<- hW0];simp
 have hsD:W0.drew.heap.size=w.heap.size+4:=by simp [hsz]
 have HBa:Hid (Below w.heap.size w W0):=by
  rw[<- hW0];exact ((((Below.refl _ w).alloc (Nat.le_refl _) _).alloc (by simp) _).alloc (by simp;omega) _).alloc (by simp;omega) _
 have HAa:Hid (W0.heap[w.heap.size]? = some (.cells #[.int .i64 s,.int .i64 e,.int .i64 l] 109 (0,0))):=by
  rw[<- hW0];iterate 3 rw[Below.heap_alloc _ _ _ (by simp;try omega)]
  exact KLe.heap_alloc_at _ _ _ (by simp)
 have HCa:Hid (W0.heap[w.heap.size+1]? = some (.cells #[.int .i64 2,.string t,.slice a1 n1 c1,.slice a2 n2 c2,.slice a3 n3 c3,.slice a4 n4 c4,.slice a5 n5 c5] 42 (0,0))):=by
  rw[<- hW0];iterate 2 rw[Below.heap_alloc _ _ _ (by simp;try omega)]
  exact KLe.heap_alloc_at _ _ _ (by simp)
 have HRa:Hid (W0.heap[w.heap.size+1+1]? = some (.cells #[.int .i64 0,.int .i64 0,.int .i64 0] 109 (0,0))):=by
  rw[<- hW0];iterate 1 rw[Below.heap_alloc _ _ _ (by simp;try omega)]
  exact KLe.heap_alloc_at _ _ _ (by simp)
 have HTa:Hid (W0.heap[w.heap.size+1+1+1]? = some (.cells #[.nilFunc,.func (.func 141) #[] #[],.func (.func 142) #[] #[],.func (.func 143) #[] #[],.func (.func 144) #[] #[],.func (.func 145) #[] #[]] 189 (0,0))):=by
  rw[<- hW0];exact KLe.heap_alloc_at _ _ _ (by simp)
 have HS:Hid (∀ w':World,w'.heap[w.heap.size]? = some (.cells #[.int .i64 s,.int .i64 e,.int .i64 l] 109 (0,0))->w'.heap[w.heap.size+1]? = some (.cells #[.int .i64 2,.string t,.slice a1 n1 c1,.slice a2 n2 c2,.slice a3 n3 c3,.slice a4 n4 c4,.slice a5 n5 c5] 42 (0,0))->w'.heap[w.heap.size+1+1+1]? = some (.cells #[.nilFunc,.func (.func 141) #[] #[],.func (.func 142) #[] #[],.func (.func 143) #[] #[],.func (.func 144) #[] #[],.func (.func 145) #[] #[]] 189 (0,0))->w'.cell? ⟨w.heap.size,0,none⟩=some (.int .i64 s)/\w'.cell? ⟨w.heap.size,1,none⟩=some (.int .i64 e)/\w'.cell? ⟨w.heap.size,2,none⟩=some (.int .i64 l)/\w'.cell? ⟨w.heap.size+1,0,none⟩=some (.int .i64 2)/\w'.cell? ⟨w.heap.size+1,1,none⟩=some (.string t)/\w'.cell? ⟨w.heap.size+1,2,none⟩=some (.slice a1 n1 c1)/\w'.cell? ⟨w.heap.size+1,3,none⟩=some (.slice a2 n2 c2)/\w'.cell? ⟨w.heap.size+1,4,none⟩=some (.slice a3 n3 c3)/\w'.cell? ⟨w.heap.size+1,5,none⟩=some (.slice a4 n4 c4)/\w'.cell? ⟨w.heap.size+1,6,none⟩=some (.slice a5 n5 c5)/\w'.cell? ⟨w.heap.size+1+1+1,2,none⟩=some (.func (.func 142) #[] #[])):=by
  intro w' hA hC hT;obtain⟨p0,p1,p2⟩:=three_box hA;obtain⟨q0,q1,q2,q3,q4,q5,q6⟩:=seven_box hC;exact⟨p0,p1,p2,q0,q1,q2,q3,q4,q5,q6,by simp [World.cell?, hT]⟩
 have HSa:=hid (HS.out W0 HAa.out HCa.out HTa.out);obtain⟨a0_,a1_,a2_,a3_,a4_,a5_,a6_,a7_,a8_,a9_,a10_⟩:=HSa.out;go_enter func102,ntmps102;go_wp2_with fail
 try rw[hW0]
 refine wp_region_held_drew (S:=(fun w'=>w'.cell? ⟨w.heap.size,0,none⟩=some (.int .i64 s)/\w'.cell? ⟨w.heap.size,1,none⟩=some (.int .i64 e)/\w'.cell? ⟨w.heap.size,2,none⟩=some (.int .i64 l)/\w'.cell? ⟨w.heap.size+1,0,none⟩=some (.int .i64 2)/\w'.cell? ⟨w.heap.size+1,1,none⟩=some (.string t)/\w'.cell? ⟨w.heap.size+1,2,none⟩=some (.slice a1 n1 c1)/\w'.cell? ⟨w.heap.size+1,3,none⟩=some (.slice a2 n2 c2)/\w'.cell? ⟨w.heap.size+1,4,none⟩=some (.slice a3 n3 c3)/\w'.cell? ⟨w.heap.size+1,5,none⟩=some (.slice a4 n4 c4)/\w'.cell? ⟨w.heap.size+1,6,none⟩=some (.slice a5 n5 c5)/\w'.cell? ⟨w.heap.size+1+1+1,2,none⟩=some (.func (.func 142) #[] #[]))) (by kernel_rfl) (by exact HSa.out) (fun hHeld=>?_);refine wpAnyH_take (i:=0) (v:=?_) rfl (by kernel_rfl) (by kernel_rfl) (by kernel_rfl) (fun _ _ _ h=>h) (Or.inl ⟨by rfl,?_⟩) (by assumption) ?_;rotate_left 1
 ·intro w hSw;(try dsimp only at hSw);go_simp;first | done | with_reducible rfl | (rw[if_neg (by omega)])
 try simp only [Act.put, zA, zB, zD, zE, zF]
 refine tkH 1 rfl ?_;try simp only [ptH]
 refine tkH 2 rfl ?_;try simp only [ptH]
 refine tkH 3 rfl ?_;try simp only [ptH]
 refine tkH 4 rfl ?_;try simp only [ptH]
 refine tkH 5 rfl ?_;try simp only [ptH]
 refine tkH 6 rfl ?_;try simp only [ptH]
 refine rdH [7] ?_;refine AllReadyH.cons rfl (fun K hK=>?_) AllReadyH.nil;go_simp
 refine (hc _ (HBa.out.trans (Below.refl _ W0).drew)).mono ?_;rintro x W5 ⟨rfl,b5⟩;have hs5:=b5.size;rw[hsD] at hs5;have HBb:=hid ((HBa.out.trans (Below.refl _ W0).drew).trans (b5.mono HBa.out.size));have b6:Below W0.heap.size W0 W5:=((Below.refl _ W0).drew).trans b5;have HAb:=hid ((b6.block (w.heap.size) (by omega)).trans HAa.out);have HCb:=hid ((b6.block (w.heap.size+1) (by omega)).trans HCa.out);have HRb:=hid ((b6.block (w.heap.size+1+1) (by omega)).trans HRa.out);have HTb:=hid ((b6.block (w.heap.size+1+1+1) (by omega)).trans HTa.out);have HSb:=hid (HS.out W5 HAb.out HCb.out HTb.out);clear b5 b6;go_wp2_with fail
 refine hK.out _ _ (by exact HSb.out) (fun hHeld=>?_);clear hK K;try simp only [ptH]
 refine tkH 8 rfl ?_;try simp only [ptH]
 refine tkH 9 rfl ?_;try simp only [ptH]
 obtain⟨r0,r1,r2⟩:=three_box HRb.out;have rf0:=XBase.frozen_box HRb.out 0;have rf1:=XBase.frozen_box HRb.out 1;have rf2:=XBase.frozen_box HRb.out 2;obtain⟨W9,hW9⟩:=stc3 W5 (w.heap.size+1+1) (.int .i64 s') (.int .i64 e') (.int .i64 l');obtain⟨s1,s2,s3⟩:=set3 _ _ _ HRb.out hW9;have HSc:=hid (HS.out W9 ((s3 _ (by omega)).trans HAb.out) ((s3 _ (by omega)).trans HCb.out) ((s3 _ (by omega)).trans HTb.out));obtain⟨t0,t1,t2⟩:=three_box s1;have HB9:=hid (s2 _ _ (by omega) HBb.out);clear s1 s2 s3;refine rdH [10] ?_;refine AllReadyH.cons rfl (fun K hK=>?_) AllReadyH.nil;go_simp
 go_wp2_with fail
 try rw[hW9]
 refine hK.out _ _ (by exact HSc.out) (fun hHeld=>?_);clear hK K;try simp only [ptH]
 refine tkH 11 rfl ?_;try simp only [ptH]
 refine dnH ?_;go_wp2_with fail
 refine bodyPost_ret (v:=.tuple #[av s' e' l',.bool z]) (by simp [results, results102, go_sem, t0, t1, t2]) rfl ?_;exact⟨rfl,HB9.out⟩
theorem enter_condition {t:ByteArray} {a1:Option Addr} {n1 c1:Nat} {a2:Option Addr} {n2 c2:Nat} {a3:Option Addr} {n3 c3:Nat} {a4:Option Addr} {n4 c4:Nat} {a5:Option Addr} {n5 c5:Nat} {s e l:Int} {w:World} {s' e' l':Int} {z:Bool} (hc:∀ W,Below w.heap.size w W->Calls prog 143 #[av s e l,cv 3 t a1 n1 c1 a2 n2 c2 a3 n3 c3 a4 n4 c4 a5 n5 c5] W fun x w'=>x=.returned (.tuple #[av s' e' l',.bool z])/\Below W.heap.size W w') :
  Calls prog 102 #[av s e l,cv 3 t a1 n1 c1 a2 n2 c2 a3 n3 c3 a4 n4 c4 a5 n5 c5] w fun x w'=>x=.returned (.tuple #[av s' e' l',.bool z])/\Below w.heap.size w w':=by
 obtain⟨W0,hW0⟩ : ∃ W0,(((w.alloc (.cells #[.int .i64 s,.int .i64 e,.int .i64 l] 109)).alloc (.cells #[.int .i64 3,.string t,.slice a1 n1 c1,.slice a2 n2 c2,.slice a3 n3 c3,.slice a4 n4 c4,.slice a5 n5 c5] 42)).alloc (.cells #[.int .i64 0,.int .i64 0,.int .i64 0] 109)).alloc (.cells #[.nilFunc,.func (.func 141) #[] #[],.func (.func 142) #[] #[],.func (.func 143) #[] #[],.func (.func 144) #[] #[],.func (.func 145) #[] #[]] 189)=W0:=⟨_,rfl⟩;have hsz:W0.heap.size=w.heap.size+4:=by rw[<- hW0];simp
 have hsD:W0.drew.heap.size=w.heap.size+4:=by simp [hsz]
 have HBa:Hid (Below w.heap.size w W0):=by
  rw[<- hW0];exact ((((Below.refl _ w).alloc (Nat.le_refl _) _).alloc (by simp) _).alloc (by simp;omega) _).alloc (by simp;omega) _
 have HAa:Hid (W0.heap[w.heap.size]? = some (.cells #[.int .i64 s,.int .i64 e,.int .i64 l] 109 (0,0))):=by
  rw[<- hW0];iterate 3 rw[Below.heap_alloc _ _ _ (by simp;try omega)]
  exact KLe.heap_alloc_at _ _ _ (by simp)
 have HCa:Hid (W0.heap[w.heap.size+1]? = some (.cells #[.int .i64 3,.string t,.slice a1 n1 c1,.slice a2 n2 c2,.slice a3 n3 c3,.slice a4 n4 c4,.slice a5 n5 c5] 42 (0,0))):=by
  rw[<- hW0];iterate 2 rw[Below.heap_alloc _ _ _ (by simp;try omega)]
  exact KLe.heap_alloc_at _ _ _ (by simp)
 have HRa:Hid (W0.heap[w.heap.size+1+1]? = some (.cells #[.int .i64 0,.int .i64 0,.int .i64 0] 109 (0,0))):=by
  rw[<- hW0];iterate 1 rw[Below.heap_alloc _ _ _ (by simp;try omega)]
  exact KLe.heap_alloc_at _ _ _ (by simp)
 have HTa:Hid (W0.heap[w.heap.size+1+1+1]? = some (.cells #[.nilFunc,.func (.func 141) #[] #[],.func (.func 142) #[] #[],.func (.func 143) #[] #[],.func (.func 144) #[] #[],.func (.func 145) #[] #[]] 189 (0,0))):=by
  rw[<- hW0];exact KLe.heap_alloc_at _ _ _ (by simp)
 have HS:Hid (∀ w':World,w'.heap[w.heap.size]? = some (.cells #[.int .i64 s,.int .i64 e,.int .i64 l] 109 (0,0))->w'.heap[w.heap.size+1]? = some (.cells #[.int .i64 3,.string t,.slice a1 n1 c1,.slice a2 n2 c2,.slice a3 n3 c3,.slice a4 n4 c4,.slice a5 n5 c5] 42 (0,0))->w'.heap[w.heap.size+1+1+1]? = some (.cells #[.nilFunc,.func (.func 141) #[] #[],.func (.func 142) #[] #[],.func (.func 143) #[] #[],.func (.func 144) #[] #[],.func (.func 145) #[] #[]] 189 (0,0))->w'.cell? ⟨w.heap.size,0,none⟩=some (.int .i64 s)/\w'.cell? ⟨w.heap.size,1,none⟩=some (.int .i64 e)/\w'.cell? ⟨w.heap.size,2,none⟩=some (.int .i64 l)/\w'.cell? ⟨w.heap.size+1,0,none⟩=some (.int .i64 3)/\w'.cell? ⟨w.heap.size+1,1,none⟩=some (.string t)/\w'.cell? ⟨w.heap.size+1,2,none⟩=some (.slice a1 n1 c1)/\w'.cell? ⟨w.heap.size+1,3,none⟩=some (.slice a2 n2 c2)/\w'.cell? ⟨w.heap.size+1,4,none⟩=some (.slice a3 n3 c3)/\w'.cell? ⟨w.heap.size+1,5,none⟩=some (.slice a4 n4 c4)/\w'.cell? ⟨w.heap.size+1,6,none⟩=some (.slice a5 n5 c5)/\w'.cell? ⟨w.heap.size+1+1+1,3,none⟩=some (.func (.func 143) #[] #[])):=by
  intro w' hA hC hT;obtain⟨p0,p1,p2⟩:=three_box hA;obtain⟨q0,q1,q2,q3,q4,q5,q6⟩:=seven_box hC;exact⟨p0,p1,p2,q0,q1,q2,q3,q4,q5,q6,by simp [World.cell?, hT]⟩
 have HSa:=hid (HS.out W0 HAa.out HCa.out HTa.out);obtain⟨a0_,a1_,a2_,a3_,a4_,a5_,a6_,a7_,a8_,a9_,a10_⟩:=HSa.out;go_enter func102,ntmps102;go_wp2_with fail
 try rw[hW0]
 refine wp_region_held_drew (S:=(fun w'=>w'.cell? ⟨w.heap.size,0,none⟩=some (.int .i64 s)/\w'.cell? ⟨w.heap.size,1,none⟩=some (.int .i64 e)/\w'.cell? ⟨w.heap.size,2,none⟩=some (.int .i64 l)/\w'.cell? ⟨w.heap.size+1,0,none⟩=some (.int .i64 3)/\w'.cell? ⟨w.heap.size+1,1,none⟩=some (.string t)/\w'.cell? ⟨w.heap.size+1,2,none⟩=some (.slice a1 n1 c1)/\w'.cell? ⟨w.heap.size+1,3,none⟩=some (.slice a2 n2 c2)/\w'.cell? ⟨w.heap.size+1,4,none⟩=some (.slice a3 n3 c3)/\w'.cell? ⟨w.heap.size+1,5,none⟩=some (.slice a4 n4 c4)/\w'.cell? ⟨w.heap.size+1,6,none⟩=some (.slice a5 n5 c5)/\w'.cell? ⟨w.heap.size+1+1+1,3,none⟩=some (.func (.func 143) #[] #[]))) (by kernel_rfl) (by exact HSa.out) (fun hHeld=>?_);refine wpAnyH_take (i:=0) (v:=?_) rfl (by kernel_rfl) (by kernel_rfl) (by kernel_rfl) (fun _ _ _ h=>h) (Or.inl ⟨by rfl,?_⟩) (by assumption) ?_;rotate_left 1
 ·intro w hSw;(try dsimp only at hSw);go_simp;first | done | with_reducible rfl | (rw[if_neg (by omega)])
 try simp only [Act.put, zA, zB, zD, zE, zF]
 refine tkH 1 rfl ?_;try simp only [ptH]
 refine tkH 2 rfl ?_;try simp only [ptH]
 refine tkH 3 rfl ?_;try simp only [ptH]
 refine tkH 4 rfl ?_;try simp only [ptH]
 refine tkH 5 rfl ?_;try simp only [ptH]
 refine tkH 6 rfl ?_;try simp only [ptH]
 refine rdH [7] ?_;refine AllReadyH.cons rfl (fun K hK=>?_) AllReadyH.nil;go_simp
 refine (hc _ (HBa.out.trans (Below.refl _ W0).drew)).mono ?_;rintro x W5 ⟨rfl,b5⟩;have hs5:=b5.size;rw[hsD] at hs5;have HBb:=hid ((HBa.out.trans (Below.refl _ W0).drew).trans (b5.mono HBa.out.size));have b6:Below W0.heap.size W0 W5:=((Below.refl _ W0).drew).trans b5;have HAb:=hid ((b6.block (w.heap.size) (by omega)).trans HAa.out);have HCb:=hid ((b6.block (w.heap.size+1) (by omega)).trans HCa.out);have HRb:=hid ((b6.block (w.heap.size+1+1) (by omega)).trans HRa.out);have HTb:=hid ((b6.block (w.heap.size+1+1+1) (by omega)).trans HTa.out);have HSb:=hid (HS.out W5 HAb.out HCb.out HTb.out);clear b5 b6;go_wp2_with fail
 refine hK.out _ _ (by exact HSb.out) (fun hHeld=>?_);clear hK K;try simp only [ptH]
 refine tkH 8 rfl ?_;try simp only [ptH]
 refine tkH 9 rfl ?_;try simp only [ptH]
 obtain⟨r0,r1,r2⟩:=three_box HRb.out;have rf0:=XBase.frozen_box HRb.out 0;have rf1:=XBase.frozen_box HRb.out 1;have rf2:=XBase.frozen_box HRb.out 2;obtain⟨W9,hW9⟩:=stc3 W5 (w.heap.size+1+1) (.int .i64 s') (.int .i64 e') (.int .i64 l');obtain⟨s1,s2,s3⟩:=set3 _ _ _ HRb.out hW9;have HSc:=hid (HS.out W9 ((s3 _ (by omega)).trans HAb.out) ((s3 _ (by omega)).trans HCb.out) ((s3 _ (by omega)).trans HTb.out));obtain⟨t0,t1,t2⟩:=three_box s1;have HB9:=hid (s2 _ _ (by omega) HBb.out);clear s1 s2 s3;refine rdH [10] ?_;refine AllReadyH.cons rfl (fun K hK=>?_) AllReadyH.nil;go_simp
 go_wp2_with fail
 try rw[hW9]
 refine hK.out _ _ (by exact HSc.out) (fun hHeld=>?_);clear hK K;try simp only [ptH]
 refine tkH 11 rfl ?_;try simp only [ptH]
 refine dnH ?_;go_wp2_with fail
 refine bodyPost_ret (v:=.tuple #[av s' e' l',.bool z]) (by simp [results, results102, go_sem, t0, t1, t2]) rfl ?_;exact⟨rfl,HB9.out⟩
theorem enter_loop {t:ByteArray} {a1:Option Addr} {n1 c1:Nat} {a2:Option Addr} {n2 c2:Nat} {a3:Option Addr} {n3 c3:Nat} {a4:Option Addr} {n4 c4:Nat} {a5:Option Addr} {n5 c5:Nat} {s e l:Int} {w:World} {s' e' l':Int} {z:Bool} (hc:∀ W,Below w.heap.size w W->Calls prog 144 #[av s e l,cv 4 t a1 n1 c1 a2 n2 c2 a3 n3 c3 a4 n4 c4 a5 n5 c5] W fun x w'=>x=.returned (.tuple #[av s' e' l',.bool z])/\Below W.heap.size W w') :
  Calls prog 102 #[av s e l,cv 4 t a1 n1 c1 a2 n2 c2 a3 n3 c3 a4 n4 c4 a5 n5 c5] w fun x w'=>x=.returned (.tuple #[av s' e' l',.bool z])/\Below w.heap.size w w':=by
 obtain⟨W0,hW0⟩ : ∃ W0,(((w.alloc (.cells #[.int .i64 s,.int .i64 e,.int .i64 l] 109)).alloc (.cells #[.int .i64 4,.string t,.slice a1 n1 c1,.slice a2 n2 c2,.slice a3 n3 c3,.slice a4 n4 c4,.slice a5 n5 c5] 42)).alloc (.cells #[.int .i64 0,.int .i64 0,.int .i64 0] 109)).alloc (.cells #[.nilFunc,.func (.func 141) #[] #[],.func (.func 142) #[] #[],.func (.func 143) #[] #[],.func (.func 144) #[] #[],.func (.func 145) #[] #[]] 189)=W0:=⟨_,rfl⟩;have hsz:W0.heap.size=w.heap.size+4:=by rw[<- hW0];simp
 have hsD:W0.drew.heap.size=w.heap.size+4:=by simp [hsz]
 have HBa:Hid (Below w.heap.size w W0):=by
  rw[<- hW0];exact ((((Below.refl _ w).alloc (Nat.le_refl _) _).alloc (by simp) _).alloc (by simp;omega) _).alloc (by simp;omega) _
 have HAa:Hid (W0.heap[w.heap.size]? = some (.cells #[.int .i64 s,.int .i64 e,.int .i64 l] 109 (0,0))):=by
  rw[<- hW0];iterate 3 rw[Below.heap_alloc _ _ _ (by simp;try omega)]
  exact KLe.heap_alloc_at _ _ _ (by simp)
 have HCa:Hid (W0.heap[w.heap.size+1]? = some (.cells #[.int .i64 4,.string t,.slice a1 n1 c1,.slice a2 n2 c2,.slice a3 n3 c3,.slice a4 n4 c4,.slice a5 n5 c5] 42 (0,0))):=by
  rw[<- hW0];iterate 2 rw[Below.heap_alloc _ _ _ (by simp;try omega)]
  exact KLe.heap_alloc_at _ _ _ (by simp)
 have HRa:Hid (W0.heap[w.heap.size+1+1]? = some (.cells #[.int .i64 0,.int .i64 0,.int .i64 0] 109 (0,0))):=by
  rw[<- hW0];iterate 1 rw[Below.heap_alloc _ _ _ (by simp;try omega)]
  exact KLe.heap_alloc_at _ _ _ (by simp)
 have HTa:Hid (W0.heap[w.heap.size+1+1+1]? = some (.cells #[.nilFunc,.func (.func 141) #[] #[],.func (.func 142) #[] #[],.func (.func 143) #[] #[],.func (.func 144) #[] #[],.func (.func 145) #[] #[]] 189 (0,0))):=by
  rw[<- hW0];exact KLe.heap_alloc_at _ _ _ (by simp)
 have HS:Hid (∀ w':World,w'.heap[w.heap.size]? = some (.cells #[.int .i64 s,.int .i64 e,.int .i64 l] 109 (0,0))->w'.heap[w.heap.size+1]? = some (.cells #[.int .i64 4,.string t,.slice a1 n1 c1,.slice a2 n2 c2,.slice a3 n3 c3,.slice a4 n4 c4,.slice a5 n5 c5] 42 (0,0))->w'.heap[w.heap.size+1+1+1]? = some (.cells #[.nilFunc,.func (.func 141) #[] #[],.func (.func 142) #[] #[],.func (.func 143) #[] #[],.func (.func 144) #[] #[],.func (.func 145) #[] #[]] 189 (0,0))->w'.cell? ⟨w.heap.size,0,none⟩=some (.int .i64 s)/\w'.cell? ⟨w.heap.size,1,none⟩=some (.int .i64 e)/\w'.cell? ⟨w.heap.size,2,none⟩=some (.int .i64 l)/\w'.cell? ⟨w.heap.size+1,0,none⟩=some (.int .i64 4)/\w'.cell? ⟨w.heap.size+1,1,none⟩=some (.string t)/\w'.cell? ⟨w.heap.size+1,2,none⟩=some (.slice a1 n1 c1)/\w'.cell? ⟨w.heap.size+1,3,none⟩=some (.slice a2 n2 c2)/\w'.cell? ⟨w.heap.size+1,4,none⟩=some (.slice a3 n3 c3)/\w'.cell? ⟨w.heap.size+1,5,none⟩=some (.slice a4 n4 c4)/\w'.cell? ⟨w.heap.size+1,6,none⟩=some (.slice a5 n5 c5)/\w'.cell? ⟨w.heap.size+1+1+1,4,none⟩=some (.func (.func 144) #[] #[])):=by
  intro w' hA hC hT;obtain⟨p0,p1,p2⟩:=three_box hA;obtain⟨q0,q1,q2,q3,q4,q5,q6⟩:=seven_box hC;exact⟨p0,p1,p2,q0,q1,q2,q3,q4,q5,q6,by simp [World.cell?, hT]⟩
 have HSa:=hid (HS.out W0 HAa.out HCa.out HTa.out);obtain⟨a0_,a1_,a2_,a3_,a4_,a5_,a6_,a7_,a8_,a9_,a10_⟩:=HSa.out;go_enter func102,ntmps102;go_wp2_with fail
 try rw[hW0]
 refine wp_region_held_drew (S:=(fun w'=>w'.cell? ⟨w.heap.size,0,none⟩=some (.int .i64 s)/\w'.cell? ⟨w.heap.size,1,none⟩=some (.int .i64 e)/\w'.cell? ⟨w.heap.size,2,none⟩=some (.int .i64 l)/\w'.cell? ⟨w.heap.size+1,0,none⟩=some (.int .i64 4)/\w'.cell? ⟨w.heap.size+1,1,none⟩=some (.string t)/\w'.cell? ⟨w.heap.size+1,2,none⟩=some (.slice a1 n1 c1)/\w'.cell? ⟨w.heap.size+1,3,none⟩=some (.slice a2 n2 c2)/\w'.cell? ⟨w.heap.size+1,4,none⟩=some (.slice a3 n3 c3)/\w'.cell? ⟨w.heap.size+1,5,none⟩=some (.slice a4 n4 c4)/\w'.cell? ⟨w.heap.size+1,6,none⟩=some (.slice a5 n5 c5)/\w'.cell? ⟨w.heap.size+1+1+1,4,none⟩=some (.func (.func 144) #[] #[]))) (by kernel_rfl) (by exact HSa.out) (fun hHeld=>?_);refine wpAnyH_take (i:=0) (v:=?_) rfl (by kernel_rfl) (by kernel_rfl) (by kernel_rfl) (fun _ _ _ h=>h) (Or.inl ⟨by rfl,?_⟩) (by assumption) ?_;rotate_left 1
 ·intro w hSw;(try dsimp only at hSw);go_simp;first | done | with_reducible rfl | (rw[if_neg (by omega)])
 try simp only [Act.put, zA, zB, zD, zE, zF]
 refine tkH 1 rfl ?_;try simp only [ptH]
 refine tkH 2 rfl ?_;try simp only [ptH]
 refine tkH 3 rfl ?_;try simp only [ptH]
 refine tkH 4 rfl ?_;try simp only [ptH]
 refine tkH 5 rfl ?_;try simp only [ptH]
 refine tkH 6 rfl ?_;try simp only [ptH]
 refine rdH [7] ?_;refine AllReadyH.cons rfl (fun K hK=>?_) AllReadyH.nil;go_simp
 refine (hc _ (HBa.out.trans (Below.refl _ W0).drew)).mono ?_;rintro x W5 ⟨rfl,b5⟩;have hs5:=b5.size;rw[hsD] at hs5;have HBb:=hid ((HBa.out.trans (Below.refl _ W0).drew).trans (b5.mono HBa.out.size));have b6:Below W0.heap.size W0 W5:=((Below.refl _ W0).drew).trans b5;have HAb:=hid ((b6.block (w.heap.size) (by omega)).trans HAa.out);have HCb:=hid ((b6.block (w.heap.size+1) (by omega)).trans HCa.out);have HRb:=hid ((b6.block (w.heap.size+1+1) (by omega)).trans HRa.out);have HTb:=hid ((b6.block (w.heap.size+1+1+1) (by omega)).trans HTa.out);have HSb:=hid (HS.out W5 HAb.out HCb.out HTb.out);clear b5 b6;go_wp2_with fail
 refine hK.out _ _ (by exact HSb.out) (fun hHeld=>?_);clear hK K;try simp only [ptH]
 refine tkH 8 rfl ?_;try simp only [ptH]
 refine tkH 9 rfl ?_;try simp only [ptH]
 obtain⟨r0,r1,r2⟩:=three_box HRb.out;have rf0:=XBase.frozen_box HRb.out 0;have rf1:=XBase.frozen_box HRb.out 1;have rf2:=XBase.frozen_box HRb.out 2;obtain⟨W9,hW9⟩:=stc3 W5 (w.heap.size+1+1) (.int .i64 s') (.int .i64 e') (.int .i64 l');obtain⟨s1,s2,s3⟩:=set3 _ _ _ HRb.out hW9;have HSc:=hid (HS.out W9 ((s3 _ (by omega)).trans HAb.out) ((s3 _ (by omega)).trans HCb.out) ((s3 _ (by omega)).trans HTb.out));obtain⟨t0,t1,t2⟩:=three_box s1;have HB9:=hid (s2 _ _ (by omega) HBb.out);clear s1 s2 s3;refine rdH [10] ?_;refine AllReadyH.cons rfl (fun K hK=>?_) AllReadyH.nil;go_simp
 go_wp2_with fail
 try rw[hW9]
 refine hK.out _ _ (by exact HSc.out) (fun hHeld=>?_);clear hK K;try simp only [ptH]
 refine tkH 11 rfl ?_;try simp only [ptH]
 refine dnH ?_;go_wp2_with fail
 refine bodyPost_ret (v:=.tuple #[av s' e' l',.bool z]) (by simp [results, results102, go_sem, t0, t1, t2]) rfl ?_;exact⟨rfl,HB9.out⟩
theorem enter_with {t:ByteArray} {a1:Option Addr} {n1 c1:Nat} {a2:Option Addr} {n2 c2:Nat} {a3:Option Addr} {n3 c3:Nat} {a4:Option Addr} {n4 c4:Nat} {a5:Option Addr} {n5 c5:Nat} {s e l:Int} {w:World} {s' e' l':Int} {z:Bool} (hc:∀ W,Below w.heap.size w W->Calls prog 145 #[av s e l,cv 5 t a1 n1 c1 a2 n2 c2 a3 n3 c3 a4 n4 c4 a5 n5 c5] W fun x w'=>x=.returned (.tuple #[av s' e' l',.bool z])/\Below W.heap.size W w') :
  Calls prog 102 #[av s e l,cv 5 t a1 n1 c1 a2 n2 c2 a3 n3 c3 a4 n4 c4 a5 n5 c5] w fun x w'=>x=.returned (.tuple #[av s' e' l',.bool z])/\Below w.heap.size w w':=by
 obtain⟨W0,hW0⟩ : ∃ W0,(((w.alloc (.cells #[.int .i64 s,.int .i64 e,.int .i64 l] 109)).alloc (.cells #[.int .i64 5,.string t,.slice a1 n1 c1,.slice a2 n2 c2,.slice a3 n3 c3,.slice a4 n4 c4,.slice a5 n5 c5] 42)).alloc (.cells #[.int .i64 0,.int .i64 0,.int .i64 0] 109)).alloc (.cells #[.nilFunc,.func (.func 141) #[] #[],.func (.func 142) #[] #[],.func (.func 143) #[] #[],.func (.func 144) #[] #[],.func (.func 145) #[] #[]] 189)=W0:=⟨_,rfl⟩;have hsz:W0.heap.size=w.heap.size+4:=by rw[<- hW0];simp
 have hsD:W0.drew.heap.size=w.heap.size+4:=by simp [hsz]
 have HBa:Hid (Below w.heap.size w W0):=by
  rw[<- hW0];exact ((((Below.refl _ w).alloc (Nat.le_refl _) _).alloc (by simp) _).alloc (by simp;omega) _).alloc (by simp;omega) _
 have HAa:Hid (W0.heap[w.heap.size]? = some (.cells #[.int .i64 s,.int .i64 e,.int .i64 l] 109 (0,0))):=by
  rw[<- hW0];iterate 3 rw[Below.heap_alloc _ _ _ (by simp;try omega)]
  exact KLe.heap_alloc_at _ _ _ (by simp)
 have HCa:Hid (W0.heap[w.heap.size+1]? = some (.cells #[.int .i64 5,.string t,.slice a1 n1 c1,.slice a2 n2 c2,.slice a3 n3 c3,.slice a4 n4 c4,.slice a5 n5 c5] 42 (0,0))):=by
  rw[<- hW0];iterate 2 rw[Below.heap_alloc _ _ _ (by simp;try omega)]
  exact KLe.heap_alloc_at _ _ _ (by simp)
 have HRa:Hid (W0.heap[w.heap.size+1+1]? = some (.cells #[.int .i64 0,.int .i64 0,.int .i64 0] 109 (0,0))):=by
  rw[<- hW0];iterate 1 rw[Below.heap_alloc _ _ _ (by simp;try omega)]
  exact KLe.heap_alloc_at _ _ _ (by simp)
 have HTa:Hid (W0.heap[w.heap.size+1+1+1]? = some (.cells #[.nilFunc,.func (.func 141) #[] #[],.func (.func 142) #[] #[],.func (.func 143) #[] #[],.func (.func 144) #[] #[],.func (.func 145) #[] #[]] 189 (0,0))):=by
  rw[<- hW0];exact KLe.heap_alloc_at _ _ _ (by simp)
 have HS:Hid (∀ w':World,w'.heap[w.heap.size]? = some (.cells #[.int .i64 s,.int .i64 e,.int .i64 l] 109 (0,0))->w'.heap[w.heap.size+1]? = some (.cells #[.int .i64 5,.string t,.slice a1 n1 c1,.slice a2 n2 c2,.slice a3 n3 c3,.slice a4 n4 c4,.slice a5 n5 c5] 42 (0,0))->w'.heap[w.heap.size+1+1+1]? = some (.cells #[.nilFunc,.func (.func 141) #[] #[],.func (.func 142) #[] #[],.func (.func 143) #[] #[],.func (.func 144) #[] #[],.func (.func 145) #[] #[]] 189 (0,0))->w'.cell? ⟨w.heap.size,0,none⟩=some (.int .i64 s)/\w'.cell? ⟨w.heap.size,1,none⟩=some (.int .i64 e)/\w'.cell? ⟨w.heap.size,2,none⟩=some (.int .i64 l)/\w'.cell? ⟨w.heap.size+1,0,none⟩=some (.int .i64 5)/\w'.cell? ⟨w.heap.size+1,1,none⟩=some (.string t)/\w'.cell? ⟨w.heap.size+1,2,none⟩=some (.slice a1 n1 c1)/\w'.cell? ⟨w.heap.size+1,3,none⟩=some (.slice a2 n2 c2)/\w'.cell? ⟨w.heap.size+1,4,none⟩=some (.slice a3 n3 c3)/\w'.cell? ⟨w.heap.size+1,5,none⟩=some (.slice a4 n4 c4)/\w'.cell? ⟨w.heap.size+1,6,none⟩=some (.slice a5 n5 c5)/\w'.cell? ⟨w.heap.size+1+1+1,5,none⟩=some (.func (.func 145) #[] #[])):=by
  intro w' hA hC hT;obtain⟨p0,p1,p2⟩:=three_box hA;obtain⟨q0,q1,q2,q3,q4,q5,q6⟩:=seven_box hC;exact⟨p0,p1,p2,q0,q1,q2,q3,q4,q5,q6,by simp [World.cell?, hT]⟩
 have HSa:=hid (HS.out W0 HAa.out HCa.out HTa.out);obtain⟨a0_,a1_,a2_,a3_,a4_,a5_,a6_,a7_,a8_,a9_,a10_⟩:=HSa.out;go_enter func102,ntmps102;go_wp2_with fail
 try rw[hW0]
 refine wp_region_held_drew (S:=(fun w'=>w'.cell? ⟨w.heap.size,0,none⟩=some (.int .i64 s)/\w'.cell? ⟨w.heap.size,1,none⟩=some (.int .i64 e)/\w'.cell? ⟨w.heap.size,2,none⟩=some (.int .i64 l)/\w'.cell? ⟨w.heap.size+1,0,none⟩=some (.int .i64 5)/\w'.cell? ⟨w.heap.size+1,1,none⟩=some (.string t)/\w'.cell? ⟨w.heap.size+1,2,none⟩=some (.slice a1 n1 c1)/\w'.cell? ⟨w.heap.size+1,3,none⟩=some (.slice a2 n2 c2)/\w'.cell? ⟨w.heap.size+1,4,none⟩=some (.slice a3 n3 c3)/\w'.cell? ⟨w.heap.size+1,5,none⟩=some (.slice a4 n4 c4)/\w'.cell? ⟨w.heap.size+1,6,none⟩=some (.slice a5 n5 c5)/\w'.cell? ⟨w.heap.size+1+1+1,5,none⟩=some (.func (.func 145) #[] #[]))) (by kernel_rfl) (by exact HSa.out) (fun hHeld=>?_);refine wpAnyH_take (i:=0) (v:=?_) rfl (by kernel_rfl) (by kernel_rfl) (by kernel_rfl) (fun _ _ _ h=>h) (Or.inl ⟨by rfl,?_⟩) (by assumption) ?_;rotate_left 1
 ·intro w hSw;(try dsimp only at hSw);go_simp;first | done | with_reducible rfl | (rw[if_neg (by omega)])
 try simp only [Act.put, zA, zB, zD, zE, zF]
 refine tkH 1 rfl ?_;try simp only [ptH]
 refine tkH 2 rfl ?_;try simp only [ptH]
 refine tkH 3 rfl ?_;try simp only [ptH]
 refine tkH 4 rfl ?_;try simp only [ptH]
 refine tkH 5 rfl ?_;try simp only [ptH]
 refine tkH 6 rfl ?_;try simp only [ptH]
 refine rdH [7] ?_;refine AllReadyH.cons rfl (fun K hK=>?_) AllReadyH.nil;go_simp
 refine (hc _ (HBa.out.trans (Below.refl _ W0).drew)).mono ?_;rintro x W5 ⟨rfl,b5⟩;have hs5:=b5.size;rw[hsD] at hs5;have HBb:=hid ((HBa.out.trans (Below.refl _ W0).drew).trans (b5.mono HBa.out.size));have b6:Below W0.heap.size W0 W5:=((Below.refl _ W0).drew).trans b5;have HAb:=hid ((b6.block (w.heap.size) (by omega)).trans HAa.out);have HCb:=hid ((b6.block (w.heap.size+1) (by omega)).trans HCa.out);have HRb:=hid ((b6.block (w.heap.size+1+1) (by omega)).trans HRa.out);have HTb:=hid ((b6.block (w.heap.size+1+1+1) (by omega)).trans HTa.out);have HSb:=hid (HS.out W5 HAb.out HCb.out HTb.out);clear b5 b6;go_wp2_with fail
 refine hK.out _ _ (by exact HSb.out) (fun hHeld=>?_);clear hK K;try simp only [ptH]
 refine tkH 8 rfl ?_;try simp only [ptH]
 refine tkH 9 rfl ?_;try simp only [ptH]
 obtain⟨r0,r1,r2⟩:=three_box HRb.out;have rf0:=XBase.frozen_box HRb.out 0;have rf1:=XBase.frozen_box HRb.out 1;have rf2:=XBase.frozen_box HRb.out 2;obtain⟨W9,hW9⟩:=stc3 W5 (w.heap.size+1+1) (.int .i64 s') (.int .i64 e') (.int .i64 l');obtain⟨s1,s2,s3⟩:=set3 _ _ _ HRb.out hW9;have HSc:=hid (HS.out W9 ((s3 _ (by omega)).trans HAb.out) ((s3 _ (by omega)).trans HCb.out) ((s3 _ (by omega)).trans HTb.out));obtain⟨t0,t1,t2⟩:=three_box s1;have HB9:=hid (s2 _ _ (by omega) HBb.out);clear s1 s2 s3;refine rdH [10] ?_;refine AllReadyH.cons rfl (fun K hK=>?_) AllReadyH.nil;go_simp
 go_wp2_with fail
 try rw[hW9]
 refine hK.out _ _ (by exact HSc.out) (fun hHeld=>?_);clear hK K;try simp only [ptH]
 refine tkH 11 rfl ?_;try simp only [ptH]
 refine dnH ?_;go_wp2_with fail
 refine bodyPost_ret (v:=.tuple #[av s' e' l',.bool z]) (by simp [results, results102, go_sem, t0, t1, t2]) rfl ?_;exact⟨rfl,HB9.out⟩
end Go.Proofs.YtdolgmmldncfkaaGreatDoor.KEn

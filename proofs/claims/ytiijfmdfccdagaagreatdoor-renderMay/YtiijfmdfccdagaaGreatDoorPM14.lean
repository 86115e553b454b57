import Derived.Test.YtiijfmdfccdagaaGreatDoorPM06
import Derived.Test.YtiijfmdfccdagaaGreatDoorPM09
import Derived.Test.YtiijfmdfccdagaaGreatDoorPM13
open Go.Proofs.Tryz
set_option linter.unusedVariables false
set_option maxRecDepth 20000
set_option maxHeartbeats 3200000
namespace Go.Proofs.YtiijfmdfccdagaaGreatDoor.VCa
open Go.RowKit Base VPure VSm VEx VJn VTo
theorem chk0 (x : Int) (w : World) : Calls prog 121 #[.int .i64 x, .int .i64 0] w fun e w' => e = .returned (v0 3 false x ⟨#[]⟩) /\ Below w.heap.size w w' := checked_c x 0 w
theorem call_1 (k1 : Int) (b1 : Bool) (i1 : Int) (s1 : ByteArray) (an1 : Option Addr) (ln1 cn1 : Nat) (al1 : Option Addr) (ll1 cl1 : Nat) (k2 : Int) (b2 : Bool) (s2 : ByteArray) (an2 : Option Addr) (ln2 cn2 : Nat) (al2 : Option Addr) (ll2 cl2 : Nat) (w : World) :
  Calls prog 120 #[vl k1 b1 i1 s1 (.slice an1 ln1 cn1) (.slice al1 ll1 cl1), vl k2 b2 1 s2 (.slice an2 ln2 cn2) (.slice al2 ll2 cl2)] w fun e w' => An w w' e (fun c : Int => v0 3 false c ⟨#[]⟩) (if k1 = 4 then (.ok (s1.size : Int) : Except Nat Int) else if k1 = 5 \/ k1 = 6 then .ok (ll1 : Int) else .error 1101) := by
 obtain ⟨W0, hW0, hs0, hb0, hp, hq, hr⟩ := two3 w #[.int .i64 k1, .bool b1, .int .i64 i1, .string s1, (.slice an1 ln1 cn1), (.slice al1 ll1 cl1)] #[.int .i64 k2, .bool b2, .int .i64 1, .string s2, (.slice an2 ln2 cn2), (.slice al2 ll2 cl2)]
 have HR := hid hr
 have HB := hid hb0
 obtain ⟨p0, p1, p2, p3, p4, p5⟩ := six_box hp
 obtain ⟨q0, q1, q2, q3, q4, q5⟩ := six_box hq
 have cI := length_c k1 b1 i1 s1 an1 ln1 cn1 al1 ll1 cl1 W0
 obtain ⟨U, hU⟩ : ∃ U, (if k1 = 4 then (.ok (s1.size : Int) : Except Nat Int) else if k1 = 5 \/ k1 = 6 then .ok (ll1 : Int) else .error 1101) = U := ⟨_, rfl⟩
 rw [hU] at cI ⊢
 clear hU hp hq hb0 hr
 go_enter func120, ntmps120
 go_wp2_with fail
 try rw [hW0]
 refine cI.mono ?_
 intro e W1 hA
 clear cI
 cases U with
 | error c =>
  obtain ⟨rfl, hb1⟩ := hA
  exact ⟨rfl, rfl, HB.out.trans (hb1.mono HB.out.size)⟩
 | ok X =>
  obtain ⟨rfl, hb1⟩ := hA
  have HR1 := hid ((hb1.block (w.heap.size + 2) (by omega)).trans HR.out)
  have hs1 := hb1.size
  have HB1 := hid (HB.out.trans (hb1.mono HB.out.size))
  clear hb1 HR HB p0 p1 p2 p3 p4 p5 q0 q1 q2 q3 q4 q5
  have cN := number_c X
  go_wp2_with fail
  refine (cN _).mono ?_
  rintro e W2 ⟨rfl, hb2⟩
  clear cN
  have hr := (hb2.block (w.heap.size + 2) (by omega)).trans HR1.out
  have HB2 := hid (HB1.out.trans (hb2.mono HB1.out.size))
  clear hb2 HB1 HR1
  obtain ⟨r0, r1, r2, r3, r4, r5⟩ := six_box hr
  obtain ⟨rf0, rf1, rf2, rf3, rf4, rf5⟩ := Base.frz6 hr
  go_wp2_with fail
  obtain ⟨W9, hW9⟩ := stc6 W2 (w.heap.size + 2) (.int .i64 3) (.bool false) (.int .i64 X) (.string ⟨#[]⟩) (.slice none 0 0) (.slice none 0 0)
  rw [hW9]
  obtain ⟨q1, q2, q3, q4⟩ := set6 _ _ _ _ _ _ hr hW9
  first | refine out_ret (results_cell_row rfl _ W9 (w.heap.size + 2) 26 _ (0, 0) _ rfl q1 underlying26 rfl (by kernel_rfl)) rfl ?_ | refine bodyPost_ret (results_cell_row rfl _ W9 (w.heap.size + 2) 26 _ (0, 0) _ rfl q1 underlying26 rfl (by kernel_rfl)) rfl ?_
  exact ⟨rfl, q4 _ _ (by omega) HB2.out⟩
theorem call_2 (k1 : Int) (b1 : Bool) (i1 : Int) (s1 : ByteArray) (an1 : Option Addr) (ln1 cn1 : Nat) (al1 : Option Addr) (ll1 cl1 : Nat) (k2 : Int) (b2 : Bool) (s2 : ByteArray) (an2 : Option Addr) (ln2 cn2 : Nat) (al2 : Option Addr) (ll2 cl2 : Nat) (w : World) {m1 : Nat} {c1 : C} (hi1 : Base.In false All w m1 (vl k1 b1 i1 s1 (.slice an1 ln1 cn1) (.slice al1 ll1 cl1)) c1) (ht : Tb w) :
  Calls prog 120 #[vl k1 b1 i1 s1 (.slice an1 ln1 cn1) (.slice al1 ll1 cl1), vl k2 b2 2 s2 (.slice an2 ln2 cn2) (.slice al2 ll2 cl2)] w fun e w' => An w w' e (fun c : ByteArray => v0 4 false 0 c) (txt c1) := by
 obtain ⟨W0, hW0, hs0, hb0, hp, hq, hr⟩ := two3 w #[.int .i64 k1, .bool b1, .int .i64 i1, .string s1, (.slice an1 ln1 cn1), (.slice al1 ll1 cl1)] #[.int .i64 k2, .bool b2, .int .i64 2, .string s2, (.slice an2 ln2 cn2), (.slice al2 ll2 cl2)]
 have HR := hid hr
 have HB := hid hb0
 obtain ⟨p0, p1, p2, p3, p4, p5⟩ := six_box hp
 obtain ⟨q0, q1, q2, q3, q4, q5⟩ := six_box hq
 have cI := textOf_c (hi1.below hb0) (ht.below hb0)
 obtain ⟨U, hU⟩ : ∃ U, (txt c1) = U := ⟨_, rfl⟩
 rw [hU] at cI ⊢
 clear hU hp hq hb0 hr hi1 ht
 go_enter func120, ntmps120
 go_wp2_with fail
 try rw [hW0]
 refine cI.mono ?_
 intro e W1 hA
 clear cI
 cases U with
 | error c =>
  obtain ⟨rfl, hb1⟩ := hA
  exact ⟨rfl, rfl, HB.out.trans (hb1.mono HB.out.size)⟩
 | ok X =>
  obtain ⟨rfl, hb1⟩ := hA
  have HR1 := hid ((hb1.block (w.heap.size + 2) (by omega)).trans HR.out)
  have hs1 := hb1.size
  have HB1 := hid (HB.out.trans (hb1.mono HB.out.size))
  clear hb1 HR HB p0 p1 p2 p3 p4 p5 q0 q1 q2 q3 q4 q5
  have cN := text_c X
  go_wp2_with fail
  refine (cN _).mono ?_
  rintro e W2 ⟨rfl, hb2⟩
  clear cN
  have hr := (hb2.block (w.heap.size + 2) (by omega)).trans HR1.out
  have HB2 := hid (HB1.out.trans (hb2.mono HB1.out.size))
  clear hb2 HB1 HR1
  obtain ⟨r0, r1, r2, r3, r4, r5⟩ := six_box hr
  obtain ⟨rf0, rf1, rf2, rf3, rf4, rf5⟩ := Base.frz6 hr
  go_wp2_with fail
  obtain ⟨W9, hW9⟩ := stc6 W2 (w.heap.size + 2) (.int .i64 4) (.bool false) (.int .i64 0) (.string X) (.slice none 0 0) (.slice none 0 0)
  rw [hW9]
  obtain ⟨q1, q2, q3, q4⟩ := set6 _ _ _ _ _ _ hr hW9
  first | refine out_ret (results_cell_row rfl _ W9 (w.heap.size + 2) 26 _ (0, 0) _ rfl q1 underlying26 rfl (by kernel_rfl)) rfl ?_ | refine bodyPost_ret (results_cell_row rfl _ W9 (w.heap.size + 2) 26 _ (0, 0) _ rfl q1 underlying26 rfl (by kernel_rfl)) rfl ?_
  exact ⟨rfl, q4 _ _ (by omega) HB2.out⟩
theorem call_3 (k1 : Int) (b1 : Bool) (i1 : Int) (s1 : ByteArray) (an1 : Option Addr) (ln1 cn1 : Nat) (al1 : Option Addr) (ll1 cl1 : Nat) (k2 : Int) (b2 : Bool) (s2 : ByteArray) (an2 : Option Addr) (ln2 cn2 : Nat) (al2 : Option Addr) (ll2 cl2 : Nat) (w : World) :
  Calls prog 120 #[vl k1 b1 i1 s1 (.slice an1 ln1 cn1) (.slice al1 ll1 cl1), vl k2 b2 3 s2 (.slice an2 ln2 cn2) (.slice al2 ll2 cl2)] w fun e w' => An w w' e (fun c : Int => v0 3 false c ⟨#[]⟩) (if k1 = 3 then (.ok (tun 3 i1) : Except Nat Int) else .error 1101) := by
 obtain ⟨W0, hW0, hs0, hb0, hp, hq, hr⟩ := two3 w #[.int .i64 k1, .bool b1, .int .i64 i1, .string s1, (.slice an1 ln1 cn1), (.slice al1 ll1 cl1)] #[.int .i64 k2, .bool b2, .int .i64 3, .string s2, (.slice an2 ln2 cn2), (.slice al2 ll2 cl2)]
 have HR := hid hr
 have HB := hid hb0
 obtain ⟨p0, p1, p2, p3, p4, p5⟩ := six_box hp
 obtain ⟨q0, q1, q2, q3, q4, q5⟩ := six_box hq
 have cI := integer_c k1 b1 i1 s1 (.slice an1 ln1 cn1) (.slice al1 ll1 cl1) W0
 obtain ⟨U, hU⟩ : ∃ U, (if k1 = 3 then (.ok (tun 3 i1) : Except Nat Int) else .error 1101) = U := ⟨_, rfl⟩
 rw [hU]
 clear hp hq hb0 hr
 go_enter func120, ntmps120
 go_wp2_with fail
 try rw [hW0]
 refine cI.mono ?_
 intro e W1 hA
 clear cI
 by_cases h1 : k1 = 3
 ·rw [if_pos h1] at hA hU
  obtain ⟨rfl, hb1⟩ := hA
  have HR1 := hid ((hb1.block (w.heap.size + 2) (by omega)).trans HR.out)
  have hs1 := hb1.size
  have HB1 := hid (HB.out.trans (hb1.mono HB.out.size))
  clear hb1 HR HB p0 p1 p2 p3 p4 p5 q0 q1 q2 q3 q4 q5
  have cO := to_3 i1
  obtain ⟨X, hX⟩ : ∃ X, tun 3 i1 = X := ⟨_, rfl⟩
  rw [hX] at cO hU
  have cN := chk0 X
  have HU := hid hU
  clear hU hX h1
  go_wp2_with fail
  refine (cO _).mono ?_
  rintro e W1 ⟨rfl, rfl⟩
  go_wp2_with fail
  refine (cN _).mono ?_
  rintro e W2 ⟨rfl, hb2⟩
  clear cN cO
  have hr := (hb2.block (w.heap.size + 2) (by omega)).trans HR1.out
  have HB2 := hid (HB1.out.trans (hb2.mono HB1.out.size))
  clear hb2 HB1 HR1
  obtain ⟨r0, r1, r2, r3, r4, r5⟩ := six_box hr
  obtain ⟨rf0, rf1, rf2, rf3, rf4, rf5⟩ := Base.frz6 hr
  go_wp2_with fail
  obtain ⟨W9, hW9⟩ := stc6 W2 (w.heap.size + 2) (.int .i64 3) (.bool false) (.int .i64 X) (.string ⟨#[]⟩) (.slice none 0 0) (.slice none 0 0)
  rw [hW9]
  obtain ⟨q1, q2, q3, q4⟩ := set6 _ _ _ _ _ _ hr hW9
  first | refine out_ret (results_cell_row rfl _ W9 (w.heap.size + 2) 26 _ (0, 0) _ rfl q1 underlying26 rfl (by kernel_rfl)) rfl ?_ | refine bodyPost_ret (results_cell_row rfl _ W9 (w.heap.size + 2) 26 _ (0, 0) _ rfl q1 underlying26 rfl (by kernel_rfl)) rfl ?_
  rw [<- HU.out]
  exact ⟨rfl, q4 _ _ (by omega) HB2.out⟩
 ·rw [if_neg h1] at hA hU
  obtain ⟨rfl, hb1⟩ := hA
  subst hU
  exact ⟨rfl, rfl, HB.out.trans (hb1.mono HB.out.size)⟩
theorem call_4 (k1 : Int) (b1 : Bool) (i1 : Int) (s1 : ByteArray) (an1 : Option Addr) (ln1 cn1 : Nat) (al1 : Option Addr) (ll1 cl1 : Nat) (k2 : Int) (b2 : Bool) (s2 : ByteArray) (an2 : Option Addr) (ln2 cn2 : Nat) (al2 : Option Addr) (ll2 cl2 : Nat) (w : World) :
  Calls prog 120 #[vl k1 b1 i1 s1 (.slice an1 ln1 cn1) (.slice al1 ll1 cl1), vl k2 b2 4 s2 (.slice an2 ln2 cn2) (.slice al2 ll2 cl2)] w fun e w' => An w w' e (fun c : Int => v0 3 false c ⟨#[]⟩) (if k1 = 3 then (.ok (tun 4 i1) : Except Nat Int) else .error 1101) := by
 obtain ⟨W0, hW0, hs0, hb0, hp, hq, hr⟩ := two3 w #[.int .i64 k1, .bool b1, .int .i64 i1, .string s1, (.slice an1 ln1 cn1), (.slice al1 ll1 cl1)] #[.int .i64 k2, .bool b2, .int .i64 4, .string s2, (.slice an2 ln2 cn2), (.slice al2 ll2 cl2)]
 have HR := hid hr
 have HB := hid hb0
 obtain ⟨p0, p1, p2, p3, p4, p5⟩ := six_box hp
 obtain ⟨q0, q1, q2, q3, q4, q5⟩ := six_box hq
 have cI := integer_c k1 b1 i1 s1 (.slice an1 ln1 cn1) (.slice al1 ll1 cl1) W0
 obtain ⟨U, hU⟩ : ∃ U, (if k1 = 3 then (.ok (tun 4 i1) : Except Nat Int) else .error 1101) = U := ⟨_, rfl⟩
 rw [hU]
 clear hp hq hb0 hr
 go_enter func120, ntmps120
 go_wp2_with fail
 try rw [hW0]
 refine cI.mono ?_
 intro e W1 hA
 clear cI
 by_cases h1 : k1 = 3
 ·rw [if_pos h1] at hA hU
  obtain ⟨rfl, hb1⟩ := hA
  have HR1 := hid ((hb1.block (w.heap.size + 2) (by omega)).trans HR.out)
  have hs1 := hb1.size
  have HB1 := hid (HB.out.trans (hb1.mono HB.out.size))
  clear hb1 HR HB p0 p1 p2 p3 p4 p5 q0 q1 q2 q3 q4 q5
  have cO := to_4 i1
  obtain ⟨X, hX⟩ : ∃ X, tun 4 i1 = X := ⟨_, rfl⟩
  rw [hX] at cO hU
  have cN := chk0 X
  have HU := hid hU
  clear hU hX h1
  go_wp2_with fail
  refine (cO _).mono ?_
  rintro e W1 ⟨rfl, rfl⟩
  go_wp2_with fail
  refine (cN _).mono ?_
  rintro e W2 ⟨rfl, hb2⟩
  clear cN cO
  have hr := (hb2.block (w.heap.size + 2) (by omega)).trans HR1.out
  have HB2 := hid (HB1.out.trans (hb2.mono HB1.out.size))
  clear hb2 HB1 HR1
  obtain ⟨r0, r1, r2, r3, r4, r5⟩ := six_box hr
  obtain ⟨rf0, rf1, rf2, rf3, rf4, rf5⟩ := Base.frz6 hr
  go_wp2_with fail
  obtain ⟨W9, hW9⟩ := stc6 W2 (w.heap.size + 2) (.int .i64 3) (.bool false) (.int .i64 X) (.string ⟨#[]⟩) (.slice none 0 0) (.slice none 0 0)
  rw [hW9]
  obtain ⟨q1, q2, q3, q4⟩ := set6 _ _ _ _ _ _ hr hW9
  first | refine out_ret (results_cell_row rfl _ W9 (w.heap.size + 2) 26 _ (0, 0) _ rfl q1 underlying26 rfl (by kernel_rfl)) rfl ?_ | refine bodyPost_ret (results_cell_row rfl _ W9 (w.heap.size + 2) 26 _ (0, 0) _ rfl q1 underlying26 rfl (by kernel_rfl)) rfl ?_
  rw [<- HU.out]
  exact ⟨rfl, q4 _ _ (by omega) HB2.out⟩
 ·rw [if_neg h1] at hA hU
  obtain ⟨rfl, hb1⟩ := hA
  subst hU
  exact ⟨rfl, rfl, HB.out.trans (hb1.mono HB.out.size)⟩
theorem call_5 (k1 : Int) (b1 : Bool) (i1 : Int) (s1 : ByteArray) (an1 : Option Addr) (ln1 cn1 : Nat) (al1 : Option Addr) (ll1 cl1 : Nat) (k2 : Int) (b2 : Bool) (s2 : ByteArray) (an2 : Option Addr) (ln2 cn2 : Nat) (al2 : Option Addr) (ll2 cl2 : Nat) (w : World) :
  Calls prog 120 #[vl k1 b1 i1 s1 (.slice an1 ln1 cn1) (.slice al1 ll1 cl1), vl k2 b2 5 s2 (.slice an2 ln2 cn2) (.slice al2 ll2 cl2)] w fun e w' => An w w' e (fun c : Int => v0 3 false c ⟨#[]⟩) (if k1 = 3 then (.ok (tun 5 i1) : Except Nat Int) else .error 1101) := by
 obtain ⟨W0, hW0, hs0, hb0, hp, hq, hr⟩ := two3 w #[.int .i64 k1, .bool b1, .int .i64 i1, .string s1, (.slice an1 ln1 cn1), (.slice al1 ll1 cl1)] #[.int .i64 k2, .bool b2, .int .i64 5, .string s2, (.slice an2 ln2 cn2), (.slice al2 ll2 cl2)]
 have HR := hid hr
 have HB := hid hb0
 obtain ⟨p0, p1, p2, p3, p4, p5⟩ := six_box hp
 obtain ⟨q0, q1, q2, q3, q4, q5⟩ := six_box hq
 have cI := integer_c k1 b1 i1 s1 (.slice an1 ln1 cn1) (.slice al1 ll1 cl1) W0
 obtain ⟨U, hU⟩ : ∃ U, (if k1 = 3 then (.ok (tun 5 i1) : Except Nat Int) else .error 1101) = U := ⟨_, rfl⟩
 rw [hU]
 clear hp hq hb0 hr
 go_enter func120, ntmps120
 go_wp2_with fail
 try rw [hW0]
 refine cI.mono ?_
 intro e W1 hA
 clear cI
 by_cases h1 : k1 = 3
 ·rw [if_pos h1] at hA hU
  obtain ⟨rfl, hb1⟩ := hA
  have HR1 := hid ((hb1.block (w.heap.size + 2) (by omega)).trans HR.out)
  have hs1 := hb1.size
  have HB1 := hid (HB.out.trans (hb1.mono HB.out.size))
  clear hb1 HR HB p0 p1 p2 p3 p4 p5 q0 q1 q2 q3 q4 q5
  have cO := to_5 i1
  obtain ⟨X, hX⟩ : ∃ X, tun 5 i1 = X := ⟨_, rfl⟩
  rw [hX] at cO hU
  have cN := chk0 X
  have HU := hid hU
  clear hU hX h1
  go_wp2_with fail
  refine (cO _).mono ?_
  rintro e W1 ⟨rfl, rfl⟩
  go_wp2_with fail
  refine (cN _).mono ?_
  rintro e W2 ⟨rfl, hb2⟩
  clear cN cO
  have hr := (hb2.block (w.heap.size + 2) (by omega)).trans HR1.out
  have HB2 := hid (HB1.out.trans (hb2.mono HB1.out.size))
  clear hb2 HB1 HR1
  obtain ⟨r0, r1, r2, r3, r4, r5⟩ := six_box hr
  obtain ⟨rf0, rf1, rf2, rf3, rf4, rf5⟩ := Base.frz6 hr
  go_wp2_with fail
  obtain ⟨W9, hW9⟩ := stc6 W2 (w.heap.size + 2) (.int .i64 3) (.bool false) (.int .i64 X) (.string ⟨#[]⟩) (.slice none 0 0) (.slice none 0 0)
  rw [hW9]
  obtain ⟨q1, q2, q3, q4⟩ := set6 _ _ _ _ _ _ hr hW9
  first | refine out_ret (results_cell_row rfl _ W9 (w.heap.size + 2) 26 _ (0, 0) _ rfl q1 underlying26 rfl (by kernel_rfl)) rfl ?_ | refine bodyPost_ret (results_cell_row rfl _ W9 (w.heap.size + 2) 26 _ (0, 0) _ rfl q1 underlying26 rfl (by kernel_rfl)) rfl ?_
  rw [<- HU.out]
  exact ⟨rfl, q4 _ _ (by omega) HB2.out⟩
 ·rw [if_neg h1] at hA hU
  obtain ⟨rfl, hb1⟩ := hA
  subst hU
  exact ⟨rfl, rfl, HB.out.trans (hb1.mono HB.out.size)⟩
theorem call_6 (k1 : Int) (b1 : Bool) (i1 : Int) (s1 : ByteArray) (an1 : Option Addr) (ln1 cn1 : Nat) (al1 : Option Addr) (ll1 cl1 : Nat) (k2 : Int) (b2 : Bool) (s2 : ByteArray) (an2 : Option Addr) (ln2 cn2 : Nat) (al2 : Option Addr) (ll2 cl2 : Nat) (w : World) :
  Calls prog 120 #[vl k1 b1 i1 s1 (.slice an1 ln1 cn1) (.slice al1 ll1 cl1), vl k2 b2 6 s2 (.slice an2 ln2 cn2) (.slice al2 ll2 cl2)] w fun e w' => An w w' e (fun c : Int => v0 3 false c ⟨#[]⟩) (if k1 = 3 then (.ok (tun 6 i1) : Except Nat Int) else .error 1101) := by
 obtain ⟨W0, hW0, hs0, hb0, hp, hq, hr⟩ := two3 w #[.int .i64 k1, .bool b1, .int .i64 i1, .string s1, (.slice an1 ln1 cn1), (.slice al1 ll1 cl1)] #[.int .i64 k2, .bool b2, .int .i64 6, .string s2, (.slice an2 ln2 cn2), (.slice al2 ll2 cl2)]
 have HR := hid hr
 have HB := hid hb0
 obtain ⟨p0, p1, p2, p3, p4, p5⟩ := six_box hp
 obtain ⟨q0, q1, q2, q3, q4, q5⟩ := six_box hq
 have cI := integer_c k1 b1 i1 s1 (.slice an1 ln1 cn1) (.slice al1 ll1 cl1) W0
 obtain ⟨U, hU⟩ : ∃ U, (if k1 = 3 then (.ok (tun 6 i1) : Except Nat Int) else .error 1101) = U := ⟨_, rfl⟩
 rw [hU]
 clear hp hq hb0 hr
 go_enter func120, ntmps120
 go_wp2_with fail
 try rw [hW0]
 refine cI.mono ?_
 intro e W1 hA
 clear cI
 by_cases h1 : k1 = 3
 ·rw [if_pos h1] at hA hU
  obtain ⟨rfl, hb1⟩ := hA
  have HR1 := hid ((hb1.block (w.heap.size + 2) (by omega)).trans HR.out)
  have hs1 := hb1.size
  have HB1 := hid (HB.out.trans (hb1.mono HB.out.size))
  clear hb1 HR HB p0 p1 p2 p3 p4 p5 q0 q1 q2 q3 q4 q5
  have cO := to_6 i1
  obtain ⟨X, hX⟩ : ∃ X, tun 6 i1 = X := ⟨_, rfl⟩
  rw [hX] at cO hU
  have cN := chk0 X
  have HU := hid hU
  clear hU hX h1
  go_wp2_with fail
  refine (cO _).mono ?_
  rintro e W1 ⟨rfl, rfl⟩
  go_wp2_with fail
  refine (cN _).mono ?_
  rintro e W2 ⟨rfl, hb2⟩
  clear cN cO
  have hr := (hb2.block (w.heap.size + 2) (by omega)).trans HR1.out
  have HB2 := hid (HB1.out.trans (hb2.mono HB1.out.size))
  clear hb2 HB1 HR1
  obtain ⟨r0, r1, r2, r3, r4, r5⟩ := six_box hr
  obtain ⟨rf0, rf1, rf2, rf3, rf4, rf5⟩ := Base.frz6 hr
  go_wp2_with fail
  obtain ⟨W9, hW9⟩ := stc6 W2 (w.heap.size + 2) (.int .i64 3) (.bool false) (.int .i64 X) (.string ⟨#[]⟩) (.slice none 0 0) (.slice none 0 0)
  rw [hW9]
  obtain ⟨q1, q2, q3, q4⟩ := set6 _ _ _ _ _ _ hr hW9
  first | refine out_ret (results_cell_row rfl _ W9 (w.heap.size + 2) 26 _ (0, 0) _ rfl q1 underlying26 rfl (by kernel_rfl)) rfl ?_ | refine bodyPost_ret (results_cell_row rfl _ W9 (w.heap.size + 2) 26 _ (0, 0) _ rfl q1 underlying26 rfl (by kernel_rfl)) rfl ?_
  rw [<- HU.out]
  exact ⟨rfl, q4 _ _ (by omega) HB2.out⟩
 ·rw [if_neg h1] at hA hU
  obtain ⟨rfl, hb1⟩ := hA
  subst hU
  exact ⟨rfl, rfl, HB.out.trans (hb1.mono HB.out.size)⟩
theorem call_7 (k1 : Int) (b1 : Bool) (i1 : Int) (s1 : ByteArray) (an1 : Option Addr) (ln1 cn1 : Nat) (al1 : Option Addr) (ll1 cl1 : Nat) (k2 : Int) (b2 : Bool) (s2 : ByteArray) (an2 : Option Addr) (ln2 cn2 : Nat) (al2 : Option Addr) (ll2 cl2 : Nat) (w : World) :
  Calls prog 120 #[vl k1 b1 i1 s1 (.slice an1 ln1 cn1) (.slice al1 ll1 cl1), vl k2 b2 7 s2 (.slice an2 ln2 cn2) (.slice al2 ll2 cl2)] w fun e w' => An w w' e (fun c : Int => v0 3 false c ⟨#[]⟩) (if k1 = 3 then (.ok (tun 7 i1) : Except Nat Int) else .error 1101) := by
 obtain ⟨W0, hW0, hs0, hb0, hp, hq, hr⟩ := two3 w #[.int .i64 k1, .bool b1, .int .i64 i1, .string s1, (.slice an1 ln1 cn1), (.slice al1 ll1 cl1)] #[.int .i64 k2, .bool b2, .int .i64 7, .string s2, (.slice an2 ln2 cn2), (.slice al2 ll2 cl2)]
 have HR := hid hr
 have HB := hid hb0
 obtain ⟨p0, p1, p2, p3, p4, p5⟩ := six_box hp
 obtain ⟨q0, q1, q2, q3, q4, q5⟩ := six_box hq
 have cI := integer_c k1 b1 i1 s1 (.slice an1 ln1 cn1) (.slice al1 ll1 cl1) W0
 obtain ⟨U, hU⟩ : ∃ U, (if k1 = 3 then (.ok (tun 7 i1) : Except Nat Int) else .error 1101) = U := ⟨_, rfl⟩
 rw [hU]
 clear hp hq hb0 hr
 go_enter func120, ntmps120
 go_wp2_with fail
 try rw [hW0]
 refine cI.mono ?_
 intro e W1 hA
 clear cI
 by_cases h1 : k1 = 3
 ·rw [if_pos h1] at hA hU
  obtain ⟨rfl, hb1⟩ := hA
  have HR1 := hid ((hb1.block (w.heap.size + 2) (by omega)).trans HR.out)
  have hs1 := hb1.size
  have HB1 := hid (HB.out.trans (hb1.mono HB.out.size))
  clear hb1 HR HB p0 p1 p2 p3 p4 p5 q0 q1 q2 q3 q4 q5
  have cO := to_7 i1
  obtain ⟨X, hX⟩ : ∃ X, tun 7 i1 = X := ⟨_, rfl⟩
  rw [hX] at cO hU
  have cN := chk0 X
  have HU := hid hU
  clear hU hX h1
  go_wp2_with fail
  refine (cO _).mono ?_
  rintro e W1 ⟨rfl, rfl⟩
  go_wp2_with fail
  refine (cN _).mono ?_
  rintro e W2 ⟨rfl, hb2⟩
  clear cN cO
  have hr := (hb2.block (w.heap.size + 2) (by omega)).trans HR1.out
  have HB2 := hid (HB1.out.trans (hb2.mono HB1.out.size))
  clear hb2 HB1 HR1
  obtain ⟨r0, r1, r2, r3, r4, r5⟩ := six_box hr
  obtain ⟨rf0, rf1, rf2, rf3, rf4, rf5⟩ := Base.frz6 hr
  go_wp2_with fail
  obtain ⟨W9, hW9⟩ := stc6 W2 (w.heap.size + 2) (.int .i64 3) (.bool false) (.int .i64 X) (.string ⟨#[]⟩) (.slice none 0 0) (.slice none 0 0)
  rw [hW9]
  obtain ⟨q1, q2, q3, q4⟩ := set6 _ _ _ _ _ _ hr hW9
  first | refine out_ret (results_cell_row rfl _ W9 (w.heap.size + 2) 26 _ (0, 0) _ rfl q1 underlying26 rfl (by kernel_rfl)) rfl ?_ | refine bodyPost_ret (results_cell_row rfl _ W9 (w.heap.size + 2) 26 _ (0, 0) _ rfl q1 underlying26 rfl (by kernel_rfl)) rfl ?_
  rw [<- HU.out]
  exact ⟨rfl, q4 _ _ (by omega) HB2.out⟩
 ·rw [if_neg h1] at hA hU
  obtain ⟨rfl, hb1⟩ := hA
  subst hU
  exact ⟨rfl, rfl, HB.out.trans (hb1.mono HB.out.size)⟩
theorem call_8 (k1 : Int) (b1 : Bool) (i1 : Int) (s1 : ByteArray) (an1 : Option Addr) (ln1 cn1 : Nat) (al1 : Option Addr) (ll1 cl1 : Nat) (k2 : Int) (b2 : Bool) (i2 : Int) (s2 : ByteArray) (an2 : Option Addr) (ln2 cn2 : Nat) (al2 : Option Addr) (ll2 cl2 : Nat) (w : World) (g1 : i2 ≠ 1) (g2 : i2 ≠ 2) (g3 : i2 ≠ 3) (g4 : i2 ≠ 4) (g5 : i2 ≠ 5) (g6 : i2 ≠ 6) (g7 : i2 ≠ 7) :
  Calls prog 120 #[vl k1 b1 i1 s1 (.slice an1 ln1 cn1) (.slice al1 ll1 cl1), vl k2 b2 i2 s2 (.slice an2 ln2 cn2) (.slice al2 ll2 cl2)] w fun e w' => An w w' e (fun c : Int => v0 3 false c ⟨#[]⟩) (if k1 = 3 then (.ok (tun 8 i1) : Except Nat Int) else .error 1101) := by
 have j1 : (i2 == 1) = false := by simp [g1]
 have j2 : (i2 == 2) = false := by simp [g2]
 have j3 : (i2 == 3) = false := by simp [g3]
 have j4 : (i2 == 4) = false := by simp [g4]
 have j5 : (i2 == 5) = false := by simp [g5]
 have j6 : (i2 == 6) = false := by simp [g6]
 have j7 : (i2 == 7) = false := by simp [g7]
 clear g1 g2 g3 g4 g5 g6 g7
 obtain ⟨W0, hW0, hs0, hb0, hp, hq, hr⟩ := two3 w #[.int .i64 k1, .bool b1, .int .i64 i1, .string s1, (.slice an1 ln1 cn1), (.slice al1 ll1 cl1)] #[.int .i64 k2, .bool b2, .int .i64 i2, .string s2, (.slice an2 ln2 cn2), (.slice al2 ll2 cl2)]
 have HR := hid hr
 have HB := hid hb0
 obtain ⟨p0, p1, p2, p3, p4, p5⟩ := six_box hp
 obtain ⟨q0, q1, q2, q3, q4, q5⟩ := six_box hq
 have cI := integer_c k1 b1 i1 s1 (.slice an1 ln1 cn1) (.slice al1 ll1 cl1) W0
 obtain ⟨U, hU⟩ : ∃ U, (if k1 = 3 then (.ok (tun 8 i1) : Except Nat Int) else .error 1101) = U := ⟨_, rfl⟩
 rw [hU]
 clear hp hq hb0 hr
 go_enter func120, ntmps120
 go_wp2_with fail
 try rw [hW0]
 refine cI.mono ?_
 intro e W1 hA
 clear cI
 by_cases h1 : k1 = 3
 ·rw [if_pos h1] at hA hU
  obtain ⟨rfl, hb1⟩ := hA
  have HR1 := hid ((hb1.block (w.heap.size + 2) (by omega)).trans HR.out)
  have hs1 := hb1.size
  have HB1 := hid (HB.out.trans (hb1.mono HB.out.size))
  clear hb1 HR HB p0 p1 p2 p3 p4 p5 q0 q1 q2 q3 q4 q5
  have cO := to_8 i1
  obtain ⟨X, hX⟩ : ∃ X, tun 8 i1 = X := ⟨_, rfl⟩
  rw [hX] at cO hU
  have cN := chk0 X
  have HU := hid hU
  clear hU hX h1
  go_wp2_with fail
  refine (cO _).mono ?_
  rintro e W1 ⟨rfl, rfl⟩
  go_wp2_with fail
  refine (cN _).mono ?_
  rintro e W2 ⟨rfl, hb2⟩
  clear cN cO
  have hr := (hb2.block (w.heap.size + 2) (by omega)).trans HR1.out
  have HB2 := hid (HB1.out.trans (hb2.mono HB1.out.size))
  clear hb2 HB1 HR1
  obtain ⟨r0, r1, r2, r3, r4, r5⟩ := six_box hr
  obtain ⟨rf0, rf1, rf2, rf3, rf4, rf5⟩ := Base.frz6 hr
  go_wp2_with fail
  obtain ⟨W9, hW9⟩ := stc6 W2 (w.heap.size + 2) (.int .i64 3) (.bool false) (.int .i64 X) (.string ⟨#[]⟩) (.slice none 0 0) (.slice none 0 0)
  rw [hW9]
  obtain ⟨q1, q2, q3, q4⟩ := set6 _ _ _ _ _ _ hr hW9
  first | refine out_ret (results_cell_row rfl _ W9 (w.heap.size + 2) 26 _ (0, 0) _ rfl q1 underlying26 rfl (by kernel_rfl)) rfl ?_ | refine bodyPost_ret (results_cell_row rfl _ W9 (w.heap.size + 2) 26 _ (0, 0) _ rfl q1 underlying26 rfl (by kernel_rfl)) rfl ?_
  rw [<- HU.out]
  exact ⟨rfl, q4 _ _ (by omega) HB2.out⟩
 ·rw [if_neg h1] at hA hU
  obtain ⟨rfl, hb1⟩ := hA
  subst hU
  exact ⟨rfl, rfl, HB.out.trans (hb1.mono HB.out.size)⟩
theorem pair_9i (k1 : Int) (b1 : Bool) (i1 : Int) (s1 : ByteArray) (n1 l1 : Value) (k2 : Int) (b2 : Bool) (i2 : Int) (s2 : ByteArray) (n2 l2 : Value) (w : World) (U : Except Nat Int) (cI : ∀ W, Below w.heap.size w W -> Calls prog 120 #[vl k1 b1 i1 s1 n1 l1, vl k2 b2 i2 s2 n2 l2] W fun e w' => An W w' e (fun c : Int => v0 3 false c ⟨#[]⟩) U) :
  Calls prog 94 #[.int .i64 9, vl k1 b1 i1 s1 n1 l1, vl k2 b2 i2 s2 n2 l2] w fun e w' => An w w' e (fun c : Int => v0 3 false c ⟨#[]⟩) U := by
 obtain ⟨W0, hW0, hs0, hb0, hp, hq, hr⟩ := two3 w #[.int .i64 k1, .bool b1, .int .i64 i1, .string s1, n1, l1] #[.int .i64 k2, .bool b2, .int .i64 i2, .string s2, n2, l2]
 have HR := hid hr
 have HB := hid hb0
 obtain ⟨p0, p1, p2, p3, p4, p5⟩ := six_box hp
 obtain ⟨q0, q1, q2, q3, q4, q5⟩ := six_box hq
 have cI := cI W0 hb0
 clear hp hq hb0 hr
 go_enter func94, ntmps94
 go_upto_if 11 with fail
 refine wp_cond_true (by rfl) ?_
 refine wp_exit ?_
 repeat (first | (with_reducible refine ex_then ?_) | (with_reducible refine ex_skip (by decide) ?_))
 refine ex_hit ?_
 refine ex_norm ?_
 apply_assumption
 refine wp_mono (Q := Out ?outB) ?outM (out_mono ?outR ?outP)
 case outR => intro a w h; (repeat (first | (with_reducible refine rt_then ?_) | (with_reducible refine rt_blk ?_))); exact h
 case outP => intro c a w h; (repeat (first | (with_reducible refine pn_then ?_) | (with_reducible refine pn_blk ?_))); exact h
 try simp only [hW0]
 go_wp2_with fail
 try rw [hW0]
 refine cI.mono ?_
 intro e W2 hA
 clear cI
 cases U with
 | error c =>
  obtain ⟨rfl, hb1⟩ := hA
  exact ⟨rfl, rfl, HB.out.trans (hb1.mono HB.out.size)⟩
 | ok X =>
  obtain ⟨rfl, hb2⟩ := hA
  have HR1 := HR
  have HB1 := HB
  clear HR HB
  have hr := (hb2.block (w.heap.size + 2) (by omega)).trans HR1.out
  have HB2 := hid (HB1.out.trans (hb2.mono HB1.out.size))
  clear hb2 HB1 HR1
  obtain ⟨r0, r1, r2, r3, r4, r5⟩ := six_box hr
  obtain ⟨rf0, rf1, rf2, rf3, rf4, rf5⟩ := Base.frz6 hr
  go_wp2_with fail
  obtain ⟨W9, hW9⟩ := stc6 W2 (w.heap.size + 2) (.int .i64 3) (.bool false) (.int .i64 X) (.string ⟨#[]⟩) (.slice none 0 0) (.slice none 0 0)
  rw [hW9]
  obtain ⟨q1, q2, q3, q4⟩ := set6 _ _ _ _ _ _ hr hW9
  first | refine out_ret (results_cell_row rfl _ W9 (w.heap.size + 2) 26 _ (0, 0) _ rfl q1 underlying26 rfl (by kernel_rfl)) rfl ?_ | refine bodyPost_ret (results_cell_row rfl _ W9 (w.heap.size + 2) 26 _ (0, 0) _ rfl q1 underlying26 rfl (by kernel_rfl)) rfl ?_
  exact ⟨rfl, q4 _ _ (by omega) HB2.out⟩
theorem pair_9s (k1 : Int) (b1 : Bool) (i1 : Int) (s1 : ByteArray) (n1 l1 : Value) (k2 : Int) (b2 : Bool) (i2 : Int) (s2 : ByteArray) (n2 l2 : Value) (w : World) (U : Except Nat ByteArray) (cI : ∀ W, Below w.heap.size w W -> Calls prog 120 #[vl k1 b1 i1 s1 n1 l1, vl k2 b2 i2 s2 n2 l2] W fun e w' => An W w' e (fun c : ByteArray => v0 4 false 0 c) U) :
  Calls prog 94 #[.int .i64 9, vl k1 b1 i1 s1 n1 l1, vl k2 b2 i2 s2 n2 l2] w fun e w' => An w w' e (fun c : ByteArray => v0 4 false 0 c) U := by
 obtain ⟨W0, hW0, hs0, hb0, hp, hq, hr⟩ := two3 w #[.int .i64 k1, .bool b1, .int .i64 i1, .string s1, n1, l1] #[.int .i64 k2, .bool b2, .int .i64 i2, .string s2, n2, l2]
 have HR := hid hr
 have HB := hid hb0
 obtain ⟨p0, p1, p2, p3, p4, p5⟩ := six_box hp
 obtain ⟨q0, q1, q2, q3, q4, q5⟩ := six_box hq
 have cI := cI W0 hb0
 clear hp hq hb0 hr
 go_enter func94, ntmps94
 go_upto_if 11 with fail
 refine wp_cond_true (by rfl) ?_
 refine wp_exit ?_
 repeat (first | (with_reducible refine ex_then ?_) | (with_reducible refine ex_skip (by decide) ?_))
 refine ex_hit ?_
 refine ex_norm ?_
 apply_assumption
 refine wp_mono (Q := Out ?outB) ?outM (out_mono ?outR ?outP)
 case outR => intro a w h; (repeat (first | (with_reducible refine rt_then ?_) | (with_reducible refine rt_blk ?_))); exact h
 case outP => intro c a w h; (repeat (first | (with_reducible refine pn_then ?_) | (with_reducible refine pn_blk ?_))); exact h
 try simp only [hW0]
 go_wp2_with fail
 try rw [hW0]
 refine cI.mono ?_
 intro e W2 hA
 clear cI
 cases U with
 | error c =>
  obtain ⟨rfl, hb1⟩ := hA
  exact ⟨rfl, rfl, HB.out.trans (hb1.mono HB.out.size)⟩
 | ok X =>
  obtain ⟨rfl, hb2⟩ := hA
  have HR1 := HR
  have HB1 := HB
  clear HR HB
  have hr := (hb2.block (w.heap.size + 2) (by omega)).trans HR1.out
  have HB2 := hid (HB1.out.trans (hb2.mono HB1.out.size))
  clear hb2 HB1 HR1
  obtain ⟨r0, r1, r2, r3, r4, r5⟩ := six_box hr
  obtain ⟨rf0, rf1, rf2, rf3, rf4, rf5⟩ := Base.frz6 hr
  go_wp2_with fail
  obtain ⟨W9, hW9⟩ := stc6 W2 (w.heap.size + 2) (.int .i64 4) (.bool false) (.int .i64 0) (.string X) (.slice none 0 0) (.slice none 0 0)
  rw [hW9]
  obtain ⟨q1, q2, q3, q4⟩ := set6 _ _ _ _ _ _ hr hW9
  first | refine out_ret (results_cell_row rfl _ W9 (w.heap.size + 2) 26 _ (0, 0) _ rfl q1 underlying26 rfl (by kernel_rfl)) rfl ?_ | refine bodyPost_ret (results_cell_row rfl _ W9 (w.heap.size + 2) 26 _ (0, 0) _ rfl q1 underlying26 rfl (by kernel_rfl)) rfl ?_
  exact ⟨rfl, q4 _ _ (by omega) HB2.out⟩
end Go.Proofs.YtiijfmdfccdagaaGreatDoor.VCa
namespace Go.Proofs.YtiijfmdfccdagaaGreatDoor.JEr
open Go.RowKit Base EPure JPure
open VPure hiding evL
open SFit (kd)
def N0 {α : Type} (x : Except Nat α) : Prop := x ≠ .error 0
theorem ok0 {α : Type} (a : α) : N0 (.ok a) := fun h => by cases h
theorem er0 {α : Type} {e : Nat} (h : e ≠ 0) : N0 (.error e : Except Nat α) := fun q => by injection q with q; exact h q
theorem bnd0 {α β : Type} {x : Except Nat α} {f : α -> Except Nat β} (h : N0 x) (hf : ∀ a, N0 (f a)) : N0 (bnd x f) := by
 cases x with
 | error e => exact er0 fun q => h (by rw [q])
 | ok a => exact hf a
theorem isT0 (c : C) : N0 (isT c) := by unfold isT; split <;> first | exact ok0 _ | exact er0 (by decide)
theorem chk0 (x e : Int) : N0 (chkI x e) := by unfold chkI; (repeat' split) <;> first | exact ok0 _ | exact er0 (by decide)
theorem mapI0 {x : Except Nat Int} (h : N0 x) : N0 (mapI x) := by
 cases x with
 | error e => exact er0 fun q => h (by rw [q])
 | ok a => exact ok0 _
theorem mapS0 {x : Except Nat ByteArray} (h : N0 x) : N0 (mapS x) := by
 cases x with
 | error e => exact er0 fun q => h (by rw [q])
 | ok a => exact ok0 _
theorem mapB0 {x : Except Nat Bool} (h : N0 x) : N0 (mapB x) := by
 cases x with
 | error e => exact er0 fun q => h (by rw [q])
 | ok a => exact ok0 _
theorem txt0 (c : C) : N0 (txt c) := by unfold txt; split <;> first | exact ok0 _ | exact er0 (by decide)
theorem ord0 (k1 i1 : Int) (s1 : ByteArray) (k2 i2 : Int) (s2 : ByteArray) : N0 (ord k1 i1 s1 k2 i2 s2) := by unfold ord; (repeat' split) <;> first | exact ok0 _ | exact er0 (by decide)
theorem numb0 (o : Int) (a b : C) : N0 (numb o a b) := by
 refine mapI0 ?_
 unfold twI
 (repeat' split) <;> first | exact chk0 _ _ | exact er0 (by decide)
theorem pr20 (o : Int) (a b : C) : N0 (pr2 o a b) := by
 unfold pr2
 by_cases q : o = 17
 ·rw [if_pos q]
  exact bnd0 (txt0 a) fun x => bnd0 (txt0 b) fun y => by split <;> first | exact er0 (by decide) | exact ok0 _
 rw [if_neg q]
 clear q
 by_cases q : o = 10
 ·rw [if_pos q]; exact numb0 _ _ _
 rw [if_neg q]
 clear q
 by_cases q : o = 23
 ·rw [if_pos q]; exact bnd0 (ord0 _ _ _ _ _ _) fun _ => ok0 _
 rw [if_neg q]
 clear q
 by_cases q : o = 24
 ·rw [if_pos q]; exact bnd0 (ord0 _ _ _ _ _ _) fun _ => ok0 _
 rw [if_neg q]
 clear q
 by_cases q : o = 25
 ·rw [if_pos q]; exact bnd0 (ord0 _ _ _ _ _ _) fun _ => ok0 _
 rw [if_neg q]
 clear q
 by_cases q : o = 26
 ·rw [if_pos q]; exact bnd0 (ord0 _ _ _ _ _ _) fun _ => ok0 _
 rw [if_neg q]
 clear q
 by_cases q : o = 27
 ·rw [if_pos q]; exact ok0 _
 rw [if_neg q]
 clear q
 by_cases q : o = 28
 ·rw [if_pos q]; exact ok0 _
 rw [if_neg q]
 clear q
 by_cases q : o = 7 \/ o = 8
 ·rw [if_pos q]
  unfold VPure.prt prtR
  by_cases q5 : a.k = 5
  ·rw [if_pos q5]
   (repeat' split) <;> first | exact er0 (by decide) | exact ok0 _
  ·rw [if_neg q5]
   by_cases q6 : a.k = 6 /\ b.k = 4
   ·rw [if_pos q6]
    cases Part.fi a.n b.s with
    | none => exact er0 (by decide)
    | some q => exact ok0 _
   ·rw [if_neg q6]; exact er0 (by decide)
 rw [if_neg q]
 clear q
 by_cases q : o = 9
 ·rw [if_pos q]
  unfold cal
  by_cases q1 : b.i = 1
  ·rw [if_pos q1]
   refine mapI0 ?_
   unfold lenI
   (repeat' split) <;> first | exact er0 (by decide) | exact ok0 _
  rw [if_neg q1]
  by_cases q2 : b.i = 2
  ·rw [if_pos q2]; exact mapS0 (txt0 a)
  ·rw [if_neg q2]
   refine mapI0 ?_
   unfold tunI
   split <;> first | exact er0 (by decide) | exact ok0 _
 rw [if_neg q]
 clear q
 by_cases q : o = 11
 ·rw [if_pos q]
  refine mapB0 ?_
  unfold notT
  split <;> first | exact er0 (by decide) | exact ok0 _
 rw [if_neg q]
 clear q
 by_cases q : o = 20 \/ o = 21 \/ o = 22
 ·rw [if_pos q]
  refine mapI0 ?_
  unfold twX
  (repeat' split) <;> first | exact er0 (by decide) | exact ok0 _
 rw [if_neg q]
 clear q
 exact numb0 _ _ _
theorem kd_pos {o : Int} {n : Nat} (h : (n : Int) = kd o) (h1 : ¬ (1 <= o /\ o <= 6)) : 0 < n /\ (¬ (o = 7 \/ o = 9 \/ o = 10 \/ o = 11) -> 1 < n) /\ (o = 31 -> 2 < n) := by
 unfold kd at h
 rw [if_neg h1] at h
 by_cases h2 : o = 7 \/ o = 9 \/ o = 10 \/ o = 11
 ·rw [if_pos h2] at h; exact ⟨by omega, fun q => (q h2).elim, fun q => by omega⟩
 rw [if_neg h2] at h
 by_cases h3 : o = 8 \/ (12 <= o /\ o <= 30)
 ·rw [if_pos h3] at h; exact ⟨by omega, fun _ => by omega, fun q => by omega⟩
 rw [if_neg h3] at h
 by_cases h4 : o = 31
 ·rw [if_pos h4] at h; exact ⟨by omega, fun _ => by omega, fun q => by omega⟩
 rw [if_neg h4] at h
 omega
theorem node0 {ρ : ByteArray -> Option C} {o i : Int} {s : ByteArray} {p : List Ans} (hk : (p.length : Int) = kd o) (hp : ∀ q, q < p.length -> N0 (p.getD q (.error 0))) : N0 (node ρ o i s p) := by
 unfold node
 by_cases q1 : o = 1
 ·rw [if_pos q1]; exact ok0 _
 rw [if_neg q1]
 by_cases q2 : o = 2 \/ o = 3
 ·rw [if_pos q2]; exact ok0 _
 rw [if_neg q2]
 by_cases q4 : o = 4
 ·rw [if_pos q4]; exact ok0 _
 rw [if_neg q4]
 by_cases q5 : o = 5
 ·rw [if_pos q5]; exact ok0 _
 rw [if_neg q5]
 by_cases q6 : o = 6
 ·rw [if_pos q6]
  cases ρ s with
  | none => exact er0 (by decide)
  | some c => exact ok0 _
 rw [if_neg q6]
 obtain ⟨k0, k1, k2⟩ := kd_pos hk (by omega)
 have h0 := hp 0 k0
 by_cases q29 : o = 29 \/ o = 30
 ·rw [if_pos q29]
  have h1 := hp 1 (k1 (by omega))
  exact bnd0 (bnd0 h0 isT0) fun b => by
   split
   ·exact ok0 _
   ·exact bnd0 (bnd0 h1 isT0) fun c => ok0 _
 rw [if_neg q29]
 by_cases q31 : o = 31
 ·rw [if_pos q31]
  have h1 := hp 1 (k1 (by omega))
  have h2 := hp 2 (k2 q31)
  exact bnd0 (bnd0 h0 isT0) fun b => by
   split
   ·exact h1
   ·exact h2
 rw [if_neg q31]
 refine bnd0 h0 fun a => bnd0 ?_ fun b => pr20 o a b
 unfold snd2
 by_cases r7 : o = 7
 ·rw [if_pos r7]; exact ok0 _
 rw [if_neg r7]
 by_cases r9 : o = 9
 ·rw [if_pos r9]; exact ok0 _
 rw [if_neg r9]
 by_cases r10 : o = 10 \/ o = 11
 ·rw [if_pos r10]; exact ok0 _
 rw [if_neg r10]
 exact hp 1 (k1 (by omega))
theorem evL_len (ρ : Int -> Option C) : ∀ l : List Ex, (evL ρ l).length = l.length
 | [] => by rw [evL]; rfl
 | x :: t => by rw [evL_cons, List.length_cons, List.length_cons, evL_len ρ t]
theorem evL0 {ρ : Int -> Option C} : ∀ (l : List Ex), gdL l -> ∀ q, q < (evL ρ l).length -> N0 ((evL ρ l).getD q (.error 0))
 | [], _, q, h => by rw [evL] at h; simp at h
 | .mk o i s l :: t, hg, 0, h => by
  rw [gdL] at hg
  rw [evL]
  show N0 (node (fun _ => ρ i) o i s (evL ρ l))
  exact node0 (by rw [evL_len]; exact hg.1.1) (evL0 (ρ := ρ) l hg.1.2.2)
 | .mk o i s l :: t, hg, q + 1, h => by
  rw [gdL] at hg
  rw [evL] at h ⊢
  have := evL0 (ρ := ρ) t hg.2 q (by simpa using h)
  simpa using this
theorem ev0 {ρ : Int -> Option C} {x : Ex} (hg : gd x) : ev ρ x ≠ .error 0 := node0 (by rw [evL_len]; exact hg.1) (evL0 x.l hg.2.2)
end Go.Proofs.YtiijfmdfccdagaaGreatDoor.JEr

/- Expressions reckoned: call, and pair at it. -/
import Derived.Test.YtpaigpijaifeoaaGreatDoorVJn
import Derived.Test.YtpaigpijaifeoaaGreatDoorVEx
namespace Go.Proofs.YtpaigpijaifeoaaGreatDoor.VTo
open Go.RowKit Go.Proofs.YtpaigpijaifeoaaGreatDoor.Base Go.Proofs.YtpaigpijaifeoaaGreatDoor.EPure Go.Proofs.YtpaigpijaifeoaaGreatDoor.VPure Go.Proofs.YtpaigpijaifeoaaGreatDoor.VSm Go.Proofs.YtpaigpijaifeoaaGreatDoor.VIn Go.Proofs.YtpaigpijaifeoaaGreatDoor.VJn Go.Proofs.YtpaigpijaifeoaaGreatDoor.Sums
set_option linter.unusedVariables false

theorem tun_rng (n x : Int) : -9223372036854775808 ≤ tun n x ∧ tun n x ≤ 9223372036854775807 := by
  unfold tun
  repeat' split
  all_goals omega
theorem wrap_i8 (a : Int) : IntKind.i8.wrap a = (a + 128) % 256 - 128 := by
  simp only [IntKind.wrap, IntKind.bits, IntKind.signed, Bool.true_and, decide_eq_true_eq, Nat.reduceSub, Int.reducePow, ge_iff_le]
  split <;> omega
theorem wrap_u16 (a : Int) : IntKind.u16.wrap a = a % 65536 := by
  simp [IntKind.wrap, IntKind.bits, IntKind.signed]
theorem wrap_i16 (a : Int) : IntKind.i16.wrap a = (a + 32768) % 65536 - 32768 := by
  simp only [IntKind.wrap, IntKind.bits, IntKind.signed, Bool.true_and, decide_eq_true_eq, Nat.reduceSub, Int.reducePow, ge_iff_le]
  split <;> omega
theorem wrap_i32 (a : Int) : IntKind.i32.wrap a = (a + 2147483648) % 4294967296 - 2147483648 := by
  simp only [IntKind.wrap, IntKind.bits, IntKind.signed, Bool.true_and, decide_eq_true_eq, Nat.reduceSub, Int.reducePow, ge_iff_le]
  split <;> omega
theorem w64 {a : Int} (h : -9223372036854775808 ≤ a ∧ a ≤ 9223372036854775807) : wrap64 a = a := by unfold wrap64; omega
set_option maxRecDepth 100000 in
theorem to_3 (a : Int) (w : World) :
    Calls Tryz.prog 171 #[.int .i64 a, .int .i64 8, .bool true] w fun e w' => e = .returned (.tuple #[.int .i64 (tun 3 a), .int .i64 0]) ∧ w' = w := by
  have e : tun 3 a = (a + 128) % 256 - 128 := rfl
  rw [e]
  clear e
  go_enter Tryz.func171, Tryz.ntmps171
  go_wp2_with fail
  go_ret2
  exact ⟨ret2 (by first | rfl | (rw [wrap_i8, w64 (by omega)]) | (rw [wrap_i16, w64 (by omega)]) | (rw [wrap_u16, w64 (by omega)]) | (rw [wrap_i32, w64 (by omega)]) | (unfold wrap32 wrap64; omega) | (unfold wrap32; omega) | (simp only [wrap_i8, wrap_i16, wrap_u16, wrap_i32]; first | rfl | (rw [w64 (by omega)]) | (unfold wrap64; omega))) rfl, rfl⟩
set_option maxRecDepth 100000 in
theorem to_4 (a : Int) (w : World) :
    Calls Tryz.prog 171 #[.int .i64 a, .int .i64 8, .bool false] w fun e w' => e = .returned (.tuple #[.int .i64 (tun 4 a), .int .i64 0]) ∧ w' = w := by
  have e : tun 4 a = a % 256 := rfl
  rw [e]
  clear e
  go_enter Tryz.func171, Tryz.ntmps171
  go_wp2_with fail
  go_ret2
  exact ⟨ret2 (by first | rfl | (rw [wrap_i8, w64 (by omega)]) | (rw [wrap_i16, w64 (by omega)]) | (rw [wrap_u16, w64 (by omega)]) | (rw [wrap_i32, w64 (by omega)]) | (unfold wrap32 wrap64; omega) | (unfold wrap32; omega) | (simp only [wrap_i8, wrap_i16, wrap_u16, wrap_i32]; first | rfl | (rw [w64 (by omega)]) | (unfold wrap64; omega))) rfl, rfl⟩
set_option maxRecDepth 100000 in
theorem to_5 (a : Int) (w : World) :
    Calls Tryz.prog 171 #[.int .i64 a, .int .i64 16, .bool true] w fun e w' => e = .returned (.tuple #[.int .i64 (tun 5 a), .int .i64 0]) ∧ w' = w := by
  have e : tun 5 a = (a + 32768) % 65536 - 32768 := rfl
  rw [e]
  clear e
  go_enter Tryz.func171, Tryz.ntmps171
  go_wp2_with fail
  go_ret2
  exact ⟨ret2 (by first | rfl | (rw [wrap_i8, w64 (by omega)]) | (rw [wrap_i16, w64 (by omega)]) | (rw [wrap_u16, w64 (by omega)]) | (rw [wrap_i32, w64 (by omega)]) | (unfold wrap32 wrap64; omega) | (unfold wrap32; omega) | (simp only [wrap_i8, wrap_i16, wrap_u16, wrap_i32]; first | rfl | (rw [w64 (by omega)]) | (unfold wrap64; omega))) rfl, rfl⟩
set_option maxRecDepth 100000 in
theorem to_6 (a : Int) (w : World) :
    Calls Tryz.prog 171 #[.int .i64 a, .int .i64 16, .bool false] w fun e w' => e = .returned (.tuple #[.int .i64 (tun 6 a), .int .i64 0]) ∧ w' = w := by
  have e : tun 6 a = a % 65536 := rfl
  rw [e]
  clear e
  go_enter Tryz.func171, Tryz.ntmps171
  go_wp2_with fail
  go_ret2
  exact ⟨ret2 (by first | rfl | (rw [wrap_i8, w64 (by omega)]) | (rw [wrap_i16, w64 (by omega)]) | (rw [wrap_u16, w64 (by omega)]) | (rw [wrap_i32, w64 (by omega)]) | (unfold wrap32 wrap64; omega) | (unfold wrap32; omega) | (simp only [wrap_i8, wrap_i16, wrap_u16, wrap_i32]; first | rfl | (rw [w64 (by omega)]) | (unfold wrap64; omega))) rfl, rfl⟩
set_option maxRecDepth 100000 in
theorem to_7 (a : Int) (w : World) :
    Calls Tryz.prog 171 #[.int .i64 a, .int .i64 32, .bool true] w fun e w' => e = .returned (.tuple #[.int .i64 (tun 7 a), .int .i64 0]) ∧ w' = w := by
  have e : tun 7 a = (a + 2147483648) % 4294967296 - 2147483648 := rfl
  rw [e]
  clear e
  go_enter Tryz.func171, Tryz.ntmps171
  go_wp2_with fail
  go_ret2
  exact ⟨ret2 (by first | rfl | (rw [wrap_i8, w64 (by omega)]) | (rw [wrap_i16, w64 (by omega)]) | (rw [wrap_u16, w64 (by omega)]) | (rw [wrap_i32, w64 (by omega)]) | (unfold wrap32 wrap64; omega) | (unfold wrap32; omega) | (simp only [wrap_i8, wrap_i16, wrap_u16, wrap_i32]; first | rfl | (rw [w64 (by omega)]) | (unfold wrap64; omega))) rfl, rfl⟩
set_option maxRecDepth 100000 in
theorem to_8 (a : Int) (w : World) :
    Calls Tryz.prog 171 #[.int .i64 a, .int .i64 32, .bool false] w fun e w' => e = .returned (.tuple #[.int .i64 (tun 8 a), .int .i64 0]) ∧ w' = w := by
  have e : tun 8 a = a % 4294967296 := rfl
  rw [e]
  clear e
  go_enter Tryz.func171, Tryz.ntmps171
  go_wp2_with fail
  go_ret2
  exact ⟨ret2 (by first | rfl | (rw [wrap_i8, w64 (by omega)]) | (rw [wrap_i16, w64 (by omega)]) | (rw [wrap_u16, w64 (by omega)]) | (rw [wrap_i32, w64 (by omega)]) | (unfold wrap32 wrap64; omega) | (unfold wrap32; omega) | (simp only [wrap_i8, wrap_i16, wrap_u16, wrap_i32]; first | rfl | (rw [w64 (by omega)]) | (unfold wrap64; omega))) rfl, rfl⟩
set_option maxRecDepth 20000 in
/-- How long a text, a list or a record is. -/
theorem length_c (k : Int) (b : Bool) (i : Int) (s : ByteArray) (an : Option Addr) (ln cn : Nat) (al : Option Addr) (ll cl : Nat) (w : World) :
    Calls Tryz.prog 169 #[vl k b i s (.slice an ln cn) (.slice al ll cl)] w fun e w' => An w w' e (Value.int .i64) (if k = 4 then .ok (s.size : Int) else if k = 5 ∨ k = 6 then .ok (ll : Int) else .error 1101) := by
  obtain ⟨W0, hW0⟩ : ∃ W0, w.alloc (.cells #[.int .i64 k, .bool b, .int .i64 i, .string s, .slice an ln cn, .slice al ll cl] 26) = W0 := ⟨_, rfl⟩
  have hb0 : Below w.heap.size w W0 := by rw [← hW0]; exact (Below.refl _ w).alloc (Nat.le_refl _) _
  have hp : W0.heap[w.heap.size]? = some (.cells #[.int .i64 k, .bool b, .int .i64 i, .string s, .slice an ln cn, .slice al ll cl] 26 (0, 0)) := by rw [← hW0]; exact heap_alloc_new w _
  obtain ⟨p0, p1, p2, p3, p4, p5⟩ := six_box hp
  have HB : Hid (Below w.heap.size w W0) := hb0
  have cT := must_t W0
  have cF := must_f W0
  clear hp hb0
  by_cases h4 : k = 4
  · rw [if_pos h4]
    subst h4
    go_enter Tryz.func169, Tryz.ntmps169
    go_wp2_with fail
    go_ret
    exact ⟨rfl, HB.out⟩
  rw [if_neg h4]
  have e4 : (k == 4) = false := by simp [h4]
  by_cases h5 : k = 5
  · rw [if_pos (.inl h5)]
    subst h5
    clear h4 e4
    go_enter Tryz.func169, Tryz.ntmps169
    go_wp2_with fail
    try rw [hW0]
    refine cT.mono ?_
    rintro e W1 ⟨⟨v, rfl⟩, rfl⟩
    go_wp2_with fail
    go_ret
    exact ⟨rfl, HB.out⟩
  have e5 : (k == 5) = false := by simp [h5]
  by_cases h6 : k = 6
  · rw [if_pos (.inr h6)]
    subst h6
    clear h4 e4 h5 e5
    go_enter Tryz.func169, Tryz.ntmps169
    go_wp2_with fail
    try rw [hW0]
    refine cT.mono ?_
    rintro e W1 ⟨⟨v, rfl⟩, rfl⟩
    go_wp2_with fail
    go_ret
    exact ⟨rfl, HB.out⟩
  have e6 : (k == 6) = false := by simp [h6]
  rw [if_neg (fun h => h.elim h5 h6)]
  clear h4 h5 h6
  go_enter Tryz.func169, Tryz.ntmps169
  go_wp2_with fail
  try rw [hW0]
  refine cF.mono ?_
  rintro e W1 ⟨rfl, rfl⟩
  exact ⟨rfl, rfl, HB.out⟩
end Go.Proofs.YtpaigpijaifeoaaGreatDoor.VTo

namespace Go.Proofs.YtpaigpijaifeoaaGreatDoor.VCa
open Go.RowKit Go.Proofs.YtpaigpijaifeoaaGreatDoor.Base Go.Proofs.YtpaigpijaifeoaaGreatDoor.EPure Go.Proofs.YtpaigpijaifeoaaGreatDoor.VPure Go.Proofs.YtpaigpijaifeoaaGreatDoor.VSm Go.Proofs.YtpaigpijaifeoaaGreatDoor.VIn Go.Proofs.YtpaigpijaifeoaaGreatDoor.VEx Go.Proofs.YtpaigpijaifeoaaGreatDoor.VJn Go.Proofs.YtpaigpijaifeoaaGreatDoor.VTo
set_option linter.unusedVariables false

theorem chk0 (x : Int) (w : World) : Calls Tryz.prog 134 #[.int .i64 x, .int .i64 0] w fun e w' => e = .returned (v0 3 false x ⟨#[]⟩) ∧ Below w.heap.size w w' := checked_c x 0 w
set_option maxRecDepth 20000 in
set_option maxHeartbeats 3200000 in
theorem call_1 (k1 : Int) (b1 : Bool) (i1 : Int) (s1 : ByteArray) (an1 : Option Addr) (ln1 cn1 : Nat) (al1 : Option Addr) (ll1 cl1 : Nat) (k2 : Int) (b2 : Bool) (s2 : ByteArray) (an2 : Option Addr) (ln2 cn2 : Nat) (al2 : Option Addr) (ll2 cl2 : Nat) (w : World) :
    Calls Tryz.prog 133 #[vl k1 b1 i1 s1 (.slice an1 ln1 cn1) (.slice al1 ll1 cl1), vl k2 b2 1 s2 (.slice an2 ln2 cn2) (.slice al2 ll2 cl2)] w fun e w' => An w w' e (fun c : Int => v0 3 false c ⟨#[]⟩) (if k1 = 4 then (.ok (s1.size : Int) : Except Nat Int) else if k1 = 5 ∨ k1 = 6 then .ok (ll1 : Int) else .error 1101) := by
  obtain ⟨W0, hW0, hs0, hb0, hp, hq, hr⟩ := two3 w #[.int .i64 k1, .bool b1, .int .i64 i1, .string s1, (.slice an1 ln1 cn1), (.slice al1 ll1 cl1)] #[.int .i64 k2, .bool b2, .int .i64 1, .string s2, (.slice an2 ln2 cn2), (.slice al2 ll2 cl2)]
  have HR : Hid (W0.heap[w.heap.size + 2]? = some (.cells #[.int .i64 0, .bool false, .int .i64 0, .string ⟨#[]⟩, .slice none 0 0, .slice none 0 0] 26 (0, 0))) := hr
  have HB : Hid (Below w.heap.size w W0) := hb0
  obtain ⟨p0, p1, p2, p3, p4, p5⟩ := six_box hp
  obtain ⟨q0, q1, q2, q3, q4, q5⟩ := six_box hq
  have cI := length_c k1 b1 i1 s1 an1 ln1 cn1 al1 ll1 cl1 W0
  obtain ⟨U, hU⟩ : ∃ U, (if k1 = 4 then (.ok (s1.size : Int) : Except Nat Int) else if k1 = 5 ∨ k1 = 6 then .ok (ll1 : Int) else .error 1101) = U := ⟨_, rfl⟩
  rw [hU] at cI ⊢
  clear hU hp hq hb0 hr
  go_enter Tryz.func133, Tryz.ntmps133
  go_wp2_with fail
  try rw [hW0]
  refine cI.mono ?_
  intro e W1 hA
  clear cI
  cases U with
  | error c =>
    obtain ⟨rfl, hb1⟩ := hA
    exact ⟨rfl, rfl, HB.out.trans (hb1.mono HB.out.size)⟩
  | ok X =>
    obtain ⟨rfl, hb1⟩ := hA
    have HR1 : Hid (W1.heap[w.heap.size + 2]? = some (.cells #[.int .i64 0, .bool false, .int .i64 0, .string ⟨#[]⟩, .slice none 0 0, .slice none 0 0] 26 (0, 0))) := (hb1.block (w.heap.size + 2) (by omega)).trans HR.out
    have hs1 := hb1.size
    have HB1 : Hid (Below w.heap.size w W1) := HB.out.trans (hb1.mono HB.out.size)
    clear hb1 HR HB p0 p1 p2 p3 p4 p5 q0 q1 q2 q3 q4 q5
    have cN := number_c X
    go_wp2_with fail
    refine (cN _).mono ?_
    rintro e W2 ⟨rfl, hb2⟩
    clear cN
    have hr := (hb2.block (w.heap.size + 2) (by omega)).trans HR1.out
    have HB2 : Hid (Below w.heap.size w W2) := HB1.out.trans (hb2.mono HB1.out.size)
    clear hb2 HB1 HR1
    obtain ⟨r0, r1, r2, r3, r4, r5⟩ := six_box hr
    have rf0 := frozen_box hr 0
    have rf1 := frozen_box hr 1
    have rf2 := frozen_box hr 2
    have rf3 := frozen_box hr 3
    have rf4 := frozen_box hr 4
    have rf5 := frozen_box hr 5
    go_wp2_with fail
    obtain ⟨W9, hW9⟩ : ∃ W9, ((((((W2.setCell ⟨w.heap.size + 2, 0, none⟩ (.int .i64 3)).setCell ⟨w.heap.size + 2, 1, none⟩ (.bool false)).setCell ⟨w.heap.size + 2, 2, none⟩ (.int .i64 X)).setCell ⟨w.heap.size + 2, 3, none⟩ (.string ⟨#[]⟩)).setCell ⟨w.heap.size + 2, 4, none⟩ (.slice none 0 0)).setCell ⟨w.heap.size + 2, 5, none⟩ (.slice none 0 0)) = W9 := ⟨_, rfl⟩
    rw [hW9]
    obtain ⟨q1, q2, q3, q4⟩ := set6 _ _ _ _ _ _ hr hW9
    first | refine out_ret (results_cell_row rfl _ W9 (w.heap.size + 2) 26 _ (0, 0) _ rfl q1 Tryz.underlying26 rfl (by kernel_rfl)) rfl ?_ | refine bodyPost_ret (results_cell_row rfl _ W9 (w.heap.size + 2) 26 _ (0, 0) _ rfl q1 Tryz.underlying26 rfl (by kernel_rfl)) rfl ?_
    exact ⟨rfl, q4 _ _ (by omega) HB2.out⟩
set_option maxRecDepth 20000 in
set_option maxHeartbeats 3200000 in
theorem call_2 (k1 : Int) (b1 : Bool) (i1 : Int) (s1 : ByteArray) (an1 : Option Addr) (ln1 cn1 : Nat) (al1 : Option Addr) (ll1 cl1 : Nat) (k2 : Int) (b2 : Bool) (s2 : ByteArray) (an2 : Option Addr) (ln2 cn2 : Nat) (al2 : Option Addr) (ll2 cl2 : Nat) (w : World) {m1 : Nat} {c1 : C} (hi1 : Base.In false All w m1 (vl k1 b1 i1 s1 (.slice an1 ln1 cn1) (.slice al1 ll1 cl1)) c1) (ht : Tb w) :
    Calls Tryz.prog 133 #[vl k1 b1 i1 s1 (.slice an1 ln1 cn1) (.slice al1 ll1 cl1), vl k2 b2 2 s2 (.slice an2 ln2 cn2) (.slice al2 ll2 cl2)] w fun e w' => An w w' e (fun c : ByteArray => v0 4 false 0 c) (txt c1) := by
  obtain ⟨W0, hW0, hs0, hb0, hp, hq, hr⟩ := two3 w #[.int .i64 k1, .bool b1, .int .i64 i1, .string s1, (.slice an1 ln1 cn1), (.slice al1 ll1 cl1)] #[.int .i64 k2, .bool b2, .int .i64 2, .string s2, (.slice an2 ln2 cn2), (.slice al2 ll2 cl2)]
  have HR : Hid (W0.heap[w.heap.size + 2]? = some (.cells #[.int .i64 0, .bool false, .int .i64 0, .string ⟨#[]⟩, .slice none 0 0, .slice none 0 0] 26 (0, 0))) := hr
  have HB : Hid (Below w.heap.size w W0) := hb0
  obtain ⟨p0, p1, p2, p3, p4, p5⟩ := six_box hp
  obtain ⟨q0, q1, q2, q3, q4, q5⟩ := six_box hq
  have cI := textOf_c (hi1.below hb0) (ht.below hb0)
  obtain ⟨U, hU⟩ : ∃ U, (txt c1) = U := ⟨_, rfl⟩
  rw [hU] at cI ⊢
  clear hU hp hq hb0 hr hi1 ht
  go_enter Tryz.func133, Tryz.ntmps133
  go_wp2_with fail
  try rw [hW0]
  refine cI.mono ?_
  intro e W1 hA
  clear cI
  cases U with
  | error c =>
    obtain ⟨rfl, hb1⟩ := hA
    exact ⟨rfl, rfl, HB.out.trans (hb1.mono HB.out.size)⟩
  | ok X =>
    obtain ⟨rfl, hb1⟩ := hA
    have HR1 : Hid (W1.heap[w.heap.size + 2]? = some (.cells #[.int .i64 0, .bool false, .int .i64 0, .string ⟨#[]⟩, .slice none 0 0, .slice none 0 0] 26 (0, 0))) := (hb1.block (w.heap.size + 2) (by omega)).trans HR.out
    have hs1 := hb1.size
    have HB1 : Hid (Below w.heap.size w W1) := HB.out.trans (hb1.mono HB.out.size)
    clear hb1 HR HB p0 p1 p2 p3 p4 p5 q0 q1 q2 q3 q4 q5
    have cN := text_c X
    go_wp2_with fail
    refine (cN _).mono ?_
    rintro e W2 ⟨rfl, hb2⟩
    clear cN
    have hr := (hb2.block (w.heap.size + 2) (by omega)).trans HR1.out
    have HB2 : Hid (Below w.heap.size w W2) := HB1.out.trans (hb2.mono HB1.out.size)
    clear hb2 HB1 HR1
    obtain ⟨r0, r1, r2, r3, r4, r5⟩ := six_box hr
    have rf0 := frozen_box hr 0
    have rf1 := frozen_box hr 1
    have rf2 := frozen_box hr 2
    have rf3 := frozen_box hr 3
    have rf4 := frozen_box hr 4
    have rf5 := frozen_box hr 5
    go_wp2_with fail
    obtain ⟨W9, hW9⟩ : ∃ W9, ((((((W2.setCell ⟨w.heap.size + 2, 0, none⟩ (.int .i64 4)).setCell ⟨w.heap.size + 2, 1, none⟩ (.bool false)).setCell ⟨w.heap.size + 2, 2, none⟩ (.int .i64 0)).setCell ⟨w.heap.size + 2, 3, none⟩ (.string X)).setCell ⟨w.heap.size + 2, 4, none⟩ (.slice none 0 0)).setCell ⟨w.heap.size + 2, 5, none⟩ (.slice none 0 0)) = W9 := ⟨_, rfl⟩
    rw [hW9]
    obtain ⟨q1, q2, q3, q4⟩ := set6 _ _ _ _ _ _ hr hW9
    first | refine out_ret (results_cell_row rfl _ W9 (w.heap.size + 2) 26 _ (0, 0) _ rfl q1 Tryz.underlying26 rfl (by kernel_rfl)) rfl ?_ | refine bodyPost_ret (results_cell_row rfl _ W9 (w.heap.size + 2) 26 _ (0, 0) _ rfl q1 Tryz.underlying26 rfl (by kernel_rfl)) rfl ?_
    exact ⟨rfl, q4 _ _ (by omega) HB2.out⟩
set_option maxRecDepth 20000 in
set_option maxHeartbeats 3200000 in
theorem call_3 (k1 : Int) (b1 : Bool) (i1 : Int) (s1 : ByteArray) (an1 : Option Addr) (ln1 cn1 : Nat) (al1 : Option Addr) (ll1 cl1 : Nat) (k2 : Int) (b2 : Bool) (s2 : ByteArray) (an2 : Option Addr) (ln2 cn2 : Nat) (al2 : Option Addr) (ll2 cl2 : Nat) (w : World) :
    Calls Tryz.prog 133 #[vl k1 b1 i1 s1 (.slice an1 ln1 cn1) (.slice al1 ll1 cl1), vl k2 b2 3 s2 (.slice an2 ln2 cn2) (.slice al2 ll2 cl2)] w fun e w' => An w w' e (fun c : Int => v0 3 false c ⟨#[]⟩) (if k1 = 3 then (.ok (tun 3 i1) : Except Nat Int) else .error 1101) := by
  obtain ⟨W0, hW0, hs0, hb0, hp, hq, hr⟩ := two3 w #[.int .i64 k1, .bool b1, .int .i64 i1, .string s1, (.slice an1 ln1 cn1), (.slice al1 ll1 cl1)] #[.int .i64 k2, .bool b2, .int .i64 3, .string s2, (.slice an2 ln2 cn2), (.slice al2 ll2 cl2)]
  have HR : Hid (W0.heap[w.heap.size + 2]? = some (.cells #[.int .i64 0, .bool false, .int .i64 0, .string ⟨#[]⟩, .slice none 0 0, .slice none 0 0] 26 (0, 0))) := hr
  have HB : Hid (Below w.heap.size w W0) := hb0
  obtain ⟨p0, p1, p2, p3, p4, p5⟩ := six_box hp
  obtain ⟨q0, q1, q2, q3, q4, q5⟩ := six_box hq
  have cI := integer_c k1 b1 i1 s1 (.slice an1 ln1 cn1) (.slice al1 ll1 cl1) W0
  obtain ⟨U, hU⟩ : ∃ U, (if k1 = 3 then (.ok (tun 3 i1) : Except Nat Int) else .error 1101) = U := ⟨_, rfl⟩
  rw [hU]
  clear hp hq hb0 hr
  go_enter Tryz.func133, Tryz.ntmps133
  go_wp2_with fail
  try rw [hW0]
  refine cI.mono ?_
  intro e W1 hA
  clear cI
  by_cases h1 : k1 = 3
  · rw [if_pos h1] at hA hU
    obtain ⟨rfl, hb1⟩ := hA
    have HR1 : Hid (W1.heap[w.heap.size + 2]? = some (.cells #[.int .i64 0, .bool false, .int .i64 0, .string ⟨#[]⟩, .slice none 0 0, .slice none 0 0] 26 (0, 0))) := (hb1.block (w.heap.size + 2) (by omega)).trans HR.out
    have hs1 := hb1.size
    have HB1 : Hid (Below w.heap.size w W1) := HB.out.trans (hb1.mono HB.out.size)
    clear hb1 HR HB p0 p1 p2 p3 p4 p5 q0 q1 q2 q3 q4 q5
    have cO := to_3 i1
    obtain ⟨X, hX⟩ : ∃ X, tun 3 i1 = X := ⟨_, rfl⟩
    rw [hX] at cO hU
    have cN := chk0 X
    have HU : Hid _ := hU
    clear hU hX h1
    go_wp2_with fail
    refine (cO _).mono ?_
    rintro e W1 ⟨rfl, rfl⟩
    go_wp2_with fail
    refine (cN _).mono ?_
    rintro e W2 ⟨rfl, hb2⟩
    clear cN cO
    have hr := (hb2.block (w.heap.size + 2) (by omega)).trans HR1.out
    have HB2 : Hid (Below w.heap.size w W2) := HB1.out.trans (hb2.mono HB1.out.size)
    clear hb2 HB1 HR1
    obtain ⟨r0, r1, r2, r3, r4, r5⟩ := six_box hr
    have rf0 := frozen_box hr 0
    have rf1 := frozen_box hr 1
    have rf2 := frozen_box hr 2
    have rf3 := frozen_box hr 3
    have rf4 := frozen_box hr 4
    have rf5 := frozen_box hr 5
    go_wp2_with fail
    obtain ⟨W9, hW9⟩ : ∃ W9, ((((((W2.setCell ⟨w.heap.size + 2, 0, none⟩ (.int .i64 3)).setCell ⟨w.heap.size + 2, 1, none⟩ (.bool false)).setCell ⟨w.heap.size + 2, 2, none⟩ (.int .i64 X)).setCell ⟨w.heap.size + 2, 3, none⟩ (.string ⟨#[]⟩)).setCell ⟨w.heap.size + 2, 4, none⟩ (.slice none 0 0)).setCell ⟨w.heap.size + 2, 5, none⟩ (.slice none 0 0)) = W9 := ⟨_, rfl⟩
    rw [hW9]
    obtain ⟨q1, q2, q3, q4⟩ := set6 _ _ _ _ _ _ hr hW9
    first | refine out_ret (results_cell_row rfl _ W9 (w.heap.size + 2) 26 _ (0, 0) _ rfl q1 Tryz.underlying26 rfl (by kernel_rfl)) rfl ?_ | refine bodyPost_ret (results_cell_row rfl _ W9 (w.heap.size + 2) 26 _ (0, 0) _ rfl q1 Tryz.underlying26 rfl (by kernel_rfl)) rfl ?_
    rw [← HU.out]
    exact ⟨rfl, q4 _ _ (by omega) HB2.out⟩
  · rw [if_neg h1] at hA hU
    obtain ⟨rfl, hb1⟩ := hA
    subst hU
    exact ⟨rfl, rfl, HB.out.trans (hb1.mono HB.out.size)⟩
set_option maxRecDepth 20000 in
set_option maxHeartbeats 3200000 in
theorem call_4 (k1 : Int) (b1 : Bool) (i1 : Int) (s1 : ByteArray) (an1 : Option Addr) (ln1 cn1 : Nat) (al1 : Option Addr) (ll1 cl1 : Nat) (k2 : Int) (b2 : Bool) (s2 : ByteArray) (an2 : Option Addr) (ln2 cn2 : Nat) (al2 : Option Addr) (ll2 cl2 : Nat) (w : World) :
    Calls Tryz.prog 133 #[vl k1 b1 i1 s1 (.slice an1 ln1 cn1) (.slice al1 ll1 cl1), vl k2 b2 4 s2 (.slice an2 ln2 cn2) (.slice al2 ll2 cl2)] w fun e w' => An w w' e (fun c : Int => v0 3 false c ⟨#[]⟩) (if k1 = 3 then (.ok (tun 4 i1) : Except Nat Int) else .error 1101) := by
  obtain ⟨W0, hW0, hs0, hb0, hp, hq, hr⟩ := two3 w #[.int .i64 k1, .bool b1, .int .i64 i1, .string s1, (.slice an1 ln1 cn1), (.slice al1 ll1 cl1)] #[.int .i64 k2, .bool b2, .int .i64 4, .string s2, (.slice an2 ln2 cn2), (.slice al2 ll2 cl2)]
  have HR : Hid (W0.heap[w.heap.size + 2]? = some (.cells #[.int .i64 0, .bool false, .int .i64 0, .string ⟨#[]⟩, .slice none 0 0, .slice none 0 0] 26 (0, 0))) := hr
  have HB : Hid (Below w.heap.size w W0) := hb0
  obtain ⟨p0, p1, p2, p3, p4, p5⟩ := six_box hp
  obtain ⟨q0, q1, q2, q3, q4, q5⟩ := six_box hq
  have cI := integer_c k1 b1 i1 s1 (.slice an1 ln1 cn1) (.slice al1 ll1 cl1) W0
  obtain ⟨U, hU⟩ : ∃ U, (if k1 = 3 then (.ok (tun 4 i1) : Except Nat Int) else .error 1101) = U := ⟨_, rfl⟩
  rw [hU]
  clear hp hq hb0 hr
  go_enter Tryz.func133, Tryz.ntmps133
  go_wp2_with fail
  try rw [hW0]
  refine cI.mono ?_
  intro e W1 hA
  clear cI
  by_cases h1 : k1 = 3
  · rw [if_pos h1] at hA hU
    obtain ⟨rfl, hb1⟩ := hA
    have HR1 : Hid (W1.heap[w.heap.size + 2]? = some (.cells #[.int .i64 0, .bool false, .int .i64 0, .string ⟨#[]⟩, .slice none 0 0, .slice none 0 0] 26 (0, 0))) := (hb1.block (w.heap.size + 2) (by omega)).trans HR.out
    have hs1 := hb1.size
    have HB1 : Hid (Below w.heap.size w W1) := HB.out.trans (hb1.mono HB.out.size)
    clear hb1 HR HB p0 p1 p2 p3 p4 p5 q0 q1 q2 q3 q4 q5
    have cO := to_4 i1
    obtain ⟨X, hX⟩ : ∃ X, tun 4 i1 = X := ⟨_, rfl⟩
    rw [hX] at cO hU
    have cN := chk0 X
    have HU : Hid _ := hU
    clear hU hX h1
    go_wp2_with fail
    refine (cO _).mono ?_
    rintro e W1 ⟨rfl, rfl⟩
    go_wp2_with fail
    refine (cN _).mono ?_
    rintro e W2 ⟨rfl, hb2⟩
    clear cN cO
    have hr := (hb2.block (w.heap.size + 2) (by omega)).trans HR1.out
    have HB2 : Hid (Below w.heap.size w W2) := HB1.out.trans (hb2.mono HB1.out.size)
    clear hb2 HB1 HR1
    obtain ⟨r0, r1, r2, r3, r4, r5⟩ := six_box hr
    have rf0 := frozen_box hr 0
    have rf1 := frozen_box hr 1
    have rf2 := frozen_box hr 2
    have rf3 := frozen_box hr 3
    have rf4 := frozen_box hr 4
    have rf5 := frozen_box hr 5
    go_wp2_with fail
    obtain ⟨W9, hW9⟩ : ∃ W9, ((((((W2.setCell ⟨w.heap.size + 2, 0, none⟩ (.int .i64 3)).setCell ⟨w.heap.size + 2, 1, none⟩ (.bool false)).setCell ⟨w.heap.size + 2, 2, none⟩ (.int .i64 X)).setCell ⟨w.heap.size + 2, 3, none⟩ (.string ⟨#[]⟩)).setCell ⟨w.heap.size + 2, 4, none⟩ (.slice none 0 0)).setCell ⟨w.heap.size + 2, 5, none⟩ (.slice none 0 0)) = W9 := ⟨_, rfl⟩
    rw [hW9]
    obtain ⟨q1, q2, q3, q4⟩ := set6 _ _ _ _ _ _ hr hW9
    first | refine out_ret (results_cell_row rfl _ W9 (w.heap.size + 2) 26 _ (0, 0) _ rfl q1 Tryz.underlying26 rfl (by kernel_rfl)) rfl ?_ | refine bodyPost_ret (results_cell_row rfl _ W9 (w.heap.size + 2) 26 _ (0, 0) _ rfl q1 Tryz.underlying26 rfl (by kernel_rfl)) rfl ?_
    rw [← HU.out]
    exact ⟨rfl, q4 _ _ (by omega) HB2.out⟩
  · rw [if_neg h1] at hA hU
    obtain ⟨rfl, hb1⟩ := hA
    subst hU
    exact ⟨rfl, rfl, HB.out.trans (hb1.mono HB.out.size)⟩
set_option maxRecDepth 20000 in
set_option maxHeartbeats 3200000 in
theorem call_5 (k1 : Int) (b1 : Bool) (i1 : Int) (s1 : ByteArray) (an1 : Option Addr) (ln1 cn1 : Nat) (al1 : Option Addr) (ll1 cl1 : Nat) (k2 : Int) (b2 : Bool) (s2 : ByteArray) (an2 : Option Addr) (ln2 cn2 : Nat) (al2 : Option Addr) (ll2 cl2 : Nat) (w : World) :
    Calls Tryz.prog 133 #[vl k1 b1 i1 s1 (.slice an1 ln1 cn1) (.slice al1 ll1 cl1), vl k2 b2 5 s2 (.slice an2 ln2 cn2) (.slice al2 ll2 cl2)] w fun e w' => An w w' e (fun c : Int => v0 3 false c ⟨#[]⟩) (if k1 = 3 then (.ok (tun 5 i1) : Except Nat Int) else .error 1101) := by
  obtain ⟨W0, hW0, hs0, hb0, hp, hq, hr⟩ := two3 w #[.int .i64 k1, .bool b1, .int .i64 i1, .string s1, (.slice an1 ln1 cn1), (.slice al1 ll1 cl1)] #[.int .i64 k2, .bool b2, .int .i64 5, .string s2, (.slice an2 ln2 cn2), (.slice al2 ll2 cl2)]
  have HR : Hid (W0.heap[w.heap.size + 2]? = some (.cells #[.int .i64 0, .bool false, .int .i64 0, .string ⟨#[]⟩, .slice none 0 0, .slice none 0 0] 26 (0, 0))) := hr
  have HB : Hid (Below w.heap.size w W0) := hb0
  obtain ⟨p0, p1, p2, p3, p4, p5⟩ := six_box hp
  obtain ⟨q0, q1, q2, q3, q4, q5⟩ := six_box hq
  have cI := integer_c k1 b1 i1 s1 (.slice an1 ln1 cn1) (.slice al1 ll1 cl1) W0
  obtain ⟨U, hU⟩ : ∃ U, (if k1 = 3 then (.ok (tun 5 i1) : Except Nat Int) else .error 1101) = U := ⟨_, rfl⟩
  rw [hU]
  clear hp hq hb0 hr
  go_enter Tryz.func133, Tryz.ntmps133
  go_wp2_with fail
  try rw [hW0]
  refine cI.mono ?_
  intro e W1 hA
  clear cI
  by_cases h1 : k1 = 3
  · rw [if_pos h1] at hA hU
    obtain ⟨rfl, hb1⟩ := hA
    have HR1 : Hid (W1.heap[w.heap.size + 2]? = some (.cells #[.int .i64 0, .bool false, .int .i64 0, .string ⟨#[]⟩, .slice none 0 0, .slice none 0 0] 26 (0, 0))) := (hb1.block (w.heap.size + 2) (by omega)).trans HR.out
    have hs1 := hb1.size
    have HB1 : Hid (Below w.heap.size w W1) := HB.out.trans (hb1.mono HB.out.size)
    clear hb1 HR HB p0 p1 p2 p3 p4 p5 q0 q1 q2 q3 q4 q5
    have cO := to_5 i1
    obtain ⟨X, hX⟩ : ∃ X, tun 5 i1 = X := ⟨_, rfl⟩
    rw [hX] at cO hU
    have cN := chk0 X
    have HU : Hid _ := hU
    clear hU hX h1
    go_wp2_with fail
    refine (cO _).mono ?_
    rintro e W1 ⟨rfl, rfl⟩
    go_wp2_with fail
    refine (cN _).mono ?_
    rintro e W2 ⟨rfl, hb2⟩
    clear cN cO
    have hr := (hb2.block (w.heap.size + 2) (by omega)).trans HR1.out
    have HB2 : Hid (Below w.heap.size w W2) := HB1.out.trans (hb2.mono HB1.out.size)
    clear hb2 HB1 HR1
    obtain ⟨r0, r1, r2, r3, r4, r5⟩ := six_box hr
    have rf0 := frozen_box hr 0
    have rf1 := frozen_box hr 1
    have rf2 := frozen_box hr 2
    have rf3 := frozen_box hr 3
    have rf4 := frozen_box hr 4
    have rf5 := frozen_box hr 5
    go_wp2_with fail
    obtain ⟨W9, hW9⟩ : ∃ W9, ((((((W2.setCell ⟨w.heap.size + 2, 0, none⟩ (.int .i64 3)).setCell ⟨w.heap.size + 2, 1, none⟩ (.bool false)).setCell ⟨w.heap.size + 2, 2, none⟩ (.int .i64 X)).setCell ⟨w.heap.size + 2, 3, none⟩ (.string ⟨#[]⟩)).setCell ⟨w.heap.size + 2, 4, none⟩ (.slice none 0 0)).setCell ⟨w.heap.size + 2, 5, none⟩ (.slice none 0 0)) = W9 := ⟨_, rfl⟩
    rw [hW9]
    obtain ⟨q1, q2, q3, q4⟩ := set6 _ _ _ _ _ _ hr hW9
    first | refine out_ret (results_cell_row rfl _ W9 (w.heap.size + 2) 26 _ (0, 0) _ rfl q1 Tryz.underlying26 rfl (by kernel_rfl)) rfl ?_ | refine bodyPost_ret (results_cell_row rfl _ W9 (w.heap.size + 2) 26 _ (0, 0) _ rfl q1 Tryz.underlying26 rfl (by kernel_rfl)) rfl ?_
    rw [← HU.out]
    exact ⟨rfl, q4 _ _ (by omega) HB2.out⟩
  · rw [if_neg h1] at hA hU
    obtain ⟨rfl, hb1⟩ := hA
    subst hU
    exact ⟨rfl, rfl, HB.out.trans (hb1.mono HB.out.size)⟩
set_option maxRecDepth 20000 in
set_option maxHeartbeats 3200000 in
theorem call_6 (k1 : Int) (b1 : Bool) (i1 : Int) (s1 : ByteArray) (an1 : Option Addr) (ln1 cn1 : Nat) (al1 : Option Addr) (ll1 cl1 : Nat) (k2 : Int) (b2 : Bool) (s2 : ByteArray) (an2 : Option Addr) (ln2 cn2 : Nat) (al2 : Option Addr) (ll2 cl2 : Nat) (w : World) :
    Calls Tryz.prog 133 #[vl k1 b1 i1 s1 (.slice an1 ln1 cn1) (.slice al1 ll1 cl1), vl k2 b2 6 s2 (.slice an2 ln2 cn2) (.slice al2 ll2 cl2)] w fun e w' => An w w' e (fun c : Int => v0 3 false c ⟨#[]⟩) (if k1 = 3 then (.ok (tun 6 i1) : Except Nat Int) else .error 1101) := by
  obtain ⟨W0, hW0, hs0, hb0, hp, hq, hr⟩ := two3 w #[.int .i64 k1, .bool b1, .int .i64 i1, .string s1, (.slice an1 ln1 cn1), (.slice al1 ll1 cl1)] #[.int .i64 k2, .bool b2, .int .i64 6, .string s2, (.slice an2 ln2 cn2), (.slice al2 ll2 cl2)]
  have HR : Hid (W0.heap[w.heap.size + 2]? = some (.cells #[.int .i64 0, .bool false, .int .i64 0, .string ⟨#[]⟩, .slice none 0 0, .slice none 0 0] 26 (0, 0))) := hr
  have HB : Hid (Below w.heap.size w W0) := hb0
  obtain ⟨p0, p1, p2, p3, p4, p5⟩ := six_box hp
  obtain ⟨q0, q1, q2, q3, q4, q5⟩ := six_box hq
  have cI := integer_c k1 b1 i1 s1 (.slice an1 ln1 cn1) (.slice al1 ll1 cl1) W0
  obtain ⟨U, hU⟩ : ∃ U, (if k1 = 3 then (.ok (tun 6 i1) : Except Nat Int) else .error 1101) = U := ⟨_, rfl⟩
  rw [hU]
  clear hp hq hb0 hr
  go_enter Tryz.func133, Tryz.ntmps133
  go_wp2_with fail
  try rw [hW0]
  refine cI.mono ?_
  intro e W1 hA
  clear cI
  by_cases h1 : k1 = 3
  · rw [if_pos h1] at hA hU
    obtain ⟨rfl, hb1⟩ := hA
    have HR1 : Hid (W1.heap[w.heap.size + 2]? = some (.cells #[.int .i64 0, .bool false, .int .i64 0, .string ⟨#[]⟩, .slice none 0 0, .slice none 0 0] 26 (0, 0))) := (hb1.block (w.heap.size + 2) (by omega)).trans HR.out
    have hs1 := hb1.size
    have HB1 : Hid (Below w.heap.size w W1) := HB.out.trans (hb1.mono HB.out.size)
    clear hb1 HR HB p0 p1 p2 p3 p4 p5 q0 q1 q2 q3 q4 q5
    have cO := to_6 i1
    obtain ⟨X, hX⟩ : ∃ X, tun 6 i1 = X := ⟨_, rfl⟩
    rw [hX] at cO hU
    have cN := chk0 X
    have HU : Hid _ := hU
    clear hU hX h1
    go_wp2_with fail
    refine (cO _).mono ?_
    rintro e W1 ⟨rfl, rfl⟩
    go_wp2_with fail
    refine (cN _).mono ?_
    rintro e W2 ⟨rfl, hb2⟩
    clear cN cO
    have hr := (hb2.block (w.heap.size + 2) (by omega)).trans HR1.out
    have HB2 : Hid (Below w.heap.size w W2) := HB1.out.trans (hb2.mono HB1.out.size)
    clear hb2 HB1 HR1
    obtain ⟨r0, r1, r2, r3, r4, r5⟩ := six_box hr
    have rf0 := frozen_box hr 0
    have rf1 := frozen_box hr 1
    have rf2 := frozen_box hr 2
    have rf3 := frozen_box hr 3
    have rf4 := frozen_box hr 4
    have rf5 := frozen_box hr 5
    go_wp2_with fail
    obtain ⟨W9, hW9⟩ : ∃ W9, ((((((W2.setCell ⟨w.heap.size + 2, 0, none⟩ (.int .i64 3)).setCell ⟨w.heap.size + 2, 1, none⟩ (.bool false)).setCell ⟨w.heap.size + 2, 2, none⟩ (.int .i64 X)).setCell ⟨w.heap.size + 2, 3, none⟩ (.string ⟨#[]⟩)).setCell ⟨w.heap.size + 2, 4, none⟩ (.slice none 0 0)).setCell ⟨w.heap.size + 2, 5, none⟩ (.slice none 0 0)) = W9 := ⟨_, rfl⟩
    rw [hW9]
    obtain ⟨q1, q2, q3, q4⟩ := set6 _ _ _ _ _ _ hr hW9
    first | refine out_ret (results_cell_row rfl _ W9 (w.heap.size + 2) 26 _ (0, 0) _ rfl q1 Tryz.underlying26 rfl (by kernel_rfl)) rfl ?_ | refine bodyPost_ret (results_cell_row rfl _ W9 (w.heap.size + 2) 26 _ (0, 0) _ rfl q1 Tryz.underlying26 rfl (by kernel_rfl)) rfl ?_
    rw [← HU.out]
    exact ⟨rfl, q4 _ _ (by omega) HB2.out⟩
  · rw [if_neg h1] at hA hU
    obtain ⟨rfl, hb1⟩ := hA
    subst hU
    exact ⟨rfl, rfl, HB.out.trans (hb1.mono HB.out.size)⟩
set_option maxRecDepth 20000 in
set_option maxHeartbeats 3200000 in
theorem call_7 (k1 : Int) (b1 : Bool) (i1 : Int) (s1 : ByteArray) (an1 : Option Addr) (ln1 cn1 : Nat) (al1 : Option Addr) (ll1 cl1 : Nat) (k2 : Int) (b2 : Bool) (s2 : ByteArray) (an2 : Option Addr) (ln2 cn2 : Nat) (al2 : Option Addr) (ll2 cl2 : Nat) (w : World) :
    Calls Tryz.prog 133 #[vl k1 b1 i1 s1 (.slice an1 ln1 cn1) (.slice al1 ll1 cl1), vl k2 b2 7 s2 (.slice an2 ln2 cn2) (.slice al2 ll2 cl2)] w fun e w' => An w w' e (fun c : Int => v0 3 false c ⟨#[]⟩) (if k1 = 3 then (.ok (tun 7 i1) : Except Nat Int) else .error 1101) := by
  obtain ⟨W0, hW0, hs0, hb0, hp, hq, hr⟩ := two3 w #[.int .i64 k1, .bool b1, .int .i64 i1, .string s1, (.slice an1 ln1 cn1), (.slice al1 ll1 cl1)] #[.int .i64 k2, .bool b2, .int .i64 7, .string s2, (.slice an2 ln2 cn2), (.slice al2 ll2 cl2)]
  have HR : Hid (W0.heap[w.heap.size + 2]? = some (.cells #[.int .i64 0, .bool false, .int .i64 0, .string ⟨#[]⟩, .slice none 0 0, .slice none 0 0] 26 (0, 0))) := hr
  have HB : Hid (Below w.heap.size w W0) := hb0
  obtain ⟨p0, p1, p2, p3, p4, p5⟩ := six_box hp
  obtain ⟨q0, q1, q2, q3, q4, q5⟩ := six_box hq
  have cI := integer_c k1 b1 i1 s1 (.slice an1 ln1 cn1) (.slice al1 ll1 cl1) W0
  obtain ⟨U, hU⟩ : ∃ U, (if k1 = 3 then (.ok (tun 7 i1) : Except Nat Int) else .error 1101) = U := ⟨_, rfl⟩
  rw [hU]
  clear hp hq hb0 hr
  go_enter Tryz.func133, Tryz.ntmps133
  go_wp2_with fail
  try rw [hW0]
  refine cI.mono ?_
  intro e W1 hA
  clear cI
  by_cases h1 : k1 = 3
  · rw [if_pos h1] at hA hU
    obtain ⟨rfl, hb1⟩ := hA
    have HR1 : Hid (W1.heap[w.heap.size + 2]? = some (.cells #[.int .i64 0, .bool false, .int .i64 0, .string ⟨#[]⟩, .slice none 0 0, .slice none 0 0] 26 (0, 0))) := (hb1.block (w.heap.size + 2) (by omega)).trans HR.out
    have hs1 := hb1.size
    have HB1 : Hid (Below w.heap.size w W1) := HB.out.trans (hb1.mono HB.out.size)
    clear hb1 HR HB p0 p1 p2 p3 p4 p5 q0 q1 q2 q3 q4 q5
    have cO := to_7 i1
    obtain ⟨X, hX⟩ : ∃ X, tun 7 i1 = X := ⟨_, rfl⟩
    rw [hX] at cO hU
    have cN := chk0 X
    have HU : Hid _ := hU
    clear hU hX h1
    go_wp2_with fail
    refine (cO _).mono ?_
    rintro e W1 ⟨rfl, rfl⟩
    go_wp2_with fail
    refine (cN _).mono ?_
    rintro e W2 ⟨rfl, hb2⟩
    clear cN cO
    have hr := (hb2.block (w.heap.size + 2) (by omega)).trans HR1.out
    have HB2 : Hid (Below w.heap.size w W2) := HB1.out.trans (hb2.mono HB1.out.size)
    clear hb2 HB1 HR1
    obtain ⟨r0, r1, r2, r3, r4, r5⟩ := six_box hr
    have rf0 := frozen_box hr 0
    have rf1 := frozen_box hr 1
    have rf2 := frozen_box hr 2
    have rf3 := frozen_box hr 3
    have rf4 := frozen_box hr 4
    have rf5 := frozen_box hr 5
    go_wp2_with fail
    obtain ⟨W9, hW9⟩ : ∃ W9, ((((((W2.setCell ⟨w.heap.size + 2, 0, none⟩ (.int .i64 3)).setCell ⟨w.heap.size + 2, 1, none⟩ (.bool false)).setCell ⟨w.heap.size + 2, 2, none⟩ (.int .i64 X)).setCell ⟨w.heap.size + 2, 3, none⟩ (.string ⟨#[]⟩)).setCell ⟨w.heap.size + 2, 4, none⟩ (.slice none 0 0)).setCell ⟨w.heap.size + 2, 5, none⟩ (.slice none 0 0)) = W9 := ⟨_, rfl⟩
    rw [hW9]
    obtain ⟨q1, q2, q3, q4⟩ := set6 _ _ _ _ _ _ hr hW9
    first | refine out_ret (results_cell_row rfl _ W9 (w.heap.size + 2) 26 _ (0, 0) _ rfl q1 Tryz.underlying26 rfl (by kernel_rfl)) rfl ?_ | refine bodyPost_ret (results_cell_row rfl _ W9 (w.heap.size + 2) 26 _ (0, 0) _ rfl q1 Tryz.underlying26 rfl (by kernel_rfl)) rfl ?_
    rw [← HU.out]
    exact ⟨rfl, q4 _ _ (by omega) HB2.out⟩
  · rw [if_neg h1] at hA hU
    obtain ⟨rfl, hb1⟩ := hA
    subst hU
    exact ⟨rfl, rfl, HB.out.trans (hb1.mono HB.out.size)⟩
set_option maxRecDepth 20000 in
set_option maxHeartbeats 3200000 in
theorem call_8 (k1 : Int) (b1 : Bool) (i1 : Int) (s1 : ByteArray) (an1 : Option Addr) (ln1 cn1 : Nat) (al1 : Option Addr) (ll1 cl1 : Nat) (k2 : Int) (b2 : Bool) (i2 : Int) (s2 : ByteArray) (an2 : Option Addr) (ln2 cn2 : Nat) (al2 : Option Addr) (ll2 cl2 : Nat) (w : World) (g1 : i2 ≠ 1) (g2 : i2 ≠ 2) (g3 : i2 ≠ 3) (g4 : i2 ≠ 4) (g5 : i2 ≠ 5) (g6 : i2 ≠ 6) (g7 : i2 ≠ 7) :
    Calls Tryz.prog 133 #[vl k1 b1 i1 s1 (.slice an1 ln1 cn1) (.slice al1 ll1 cl1), vl k2 b2 i2 s2 (.slice an2 ln2 cn2) (.slice al2 ll2 cl2)] w fun e w' => An w w' e (fun c : Int => v0 3 false c ⟨#[]⟩) (if k1 = 3 then (.ok (tun 8 i1) : Except Nat Int) else .error 1101) := by
  have j1 : (i2 == 1) = false := by simp [g1]
  have j2 : (i2 == 2) = false := by simp [g2]
  have j3 : (i2 == 3) = false := by simp [g3]
  have j4 : (i2 == 4) = false := by simp [g4]
  have j5 : (i2 == 5) = false := by simp [g5]
  have j6 : (i2 == 6) = false := by simp [g6]
  have j7 : (i2 == 7) = false := by simp [g7]
  clear g1 g2 g3 g4 g5 g6 g7
  obtain ⟨W0, hW0, hs0, hb0, hp, hq, hr⟩ := two3 w #[.int .i64 k1, .bool b1, .int .i64 i1, .string s1, (.slice an1 ln1 cn1), (.slice al1 ll1 cl1)] #[.int .i64 k2, .bool b2, .int .i64 i2, .string s2, (.slice an2 ln2 cn2), (.slice al2 ll2 cl2)]
  have HR : Hid (W0.heap[w.heap.size + 2]? = some (.cells #[.int .i64 0, .bool false, .int .i64 0, .string ⟨#[]⟩, .slice none 0 0, .slice none 0 0] 26 (0, 0))) := hr
  have HB : Hid (Below w.heap.size w W0) := hb0
  obtain ⟨p0, p1, p2, p3, p4, p5⟩ := six_box hp
  obtain ⟨q0, q1, q2, q3, q4, q5⟩ := six_box hq
  have cI := integer_c k1 b1 i1 s1 (.slice an1 ln1 cn1) (.slice al1 ll1 cl1) W0
  obtain ⟨U, hU⟩ : ∃ U, (if k1 = 3 then (.ok (tun 8 i1) : Except Nat Int) else .error 1101) = U := ⟨_, rfl⟩
  rw [hU]
  clear hp hq hb0 hr
  go_enter Tryz.func133, Tryz.ntmps133
  go_wp2_with fail
  try rw [hW0]
  refine cI.mono ?_
  intro e W1 hA
  clear cI
  by_cases h1 : k1 = 3
  · rw [if_pos h1] at hA hU
    obtain ⟨rfl, hb1⟩ := hA
    have HR1 : Hid (W1.heap[w.heap.size + 2]? = some (.cells #[.int .i64 0, .bool false, .int .i64 0, .string ⟨#[]⟩, .slice none 0 0, .slice none 0 0] 26 (0, 0))) := (hb1.block (w.heap.size + 2) (by omega)).trans HR.out
    have hs1 := hb1.size
    have HB1 : Hid (Below w.heap.size w W1) := HB.out.trans (hb1.mono HB.out.size)
    clear hb1 HR HB p0 p1 p2 p3 p4 p5 q0 q1 q2 q3 q4 q5
    have cO := to_8 i1
    obtain ⟨X, hX⟩ : ∃ X, tun 8 i1 = X := ⟨_, rfl⟩
    rw [hX] at cO hU
    have cN := chk0 X
    have HU : Hid _ := hU
    clear hU hX h1
    go_wp2_with fail
    refine (cO _).mono ?_
    rintro e W1 ⟨rfl, rfl⟩
    go_wp2_with fail
    refine (cN _).mono ?_
    rintro e W2 ⟨rfl, hb2⟩
    clear cN cO
    have hr := (hb2.block (w.heap.size + 2) (by omega)).trans HR1.out
    have HB2 : Hid (Below w.heap.size w W2) := HB1.out.trans (hb2.mono HB1.out.size)
    clear hb2 HB1 HR1
    obtain ⟨r0, r1, r2, r3, r4, r5⟩ := six_box hr
    have rf0 := frozen_box hr 0
    have rf1 := frozen_box hr 1
    have rf2 := frozen_box hr 2
    have rf3 := frozen_box hr 3
    have rf4 := frozen_box hr 4
    have rf5 := frozen_box hr 5
    go_wp2_with fail
    obtain ⟨W9, hW9⟩ : ∃ W9, ((((((W2.setCell ⟨w.heap.size + 2, 0, none⟩ (.int .i64 3)).setCell ⟨w.heap.size + 2, 1, none⟩ (.bool false)).setCell ⟨w.heap.size + 2, 2, none⟩ (.int .i64 X)).setCell ⟨w.heap.size + 2, 3, none⟩ (.string ⟨#[]⟩)).setCell ⟨w.heap.size + 2, 4, none⟩ (.slice none 0 0)).setCell ⟨w.heap.size + 2, 5, none⟩ (.slice none 0 0)) = W9 := ⟨_, rfl⟩
    rw [hW9]
    obtain ⟨q1, q2, q3, q4⟩ := set6 _ _ _ _ _ _ hr hW9
    first | refine out_ret (results_cell_row rfl _ W9 (w.heap.size + 2) 26 _ (0, 0) _ rfl q1 Tryz.underlying26 rfl (by kernel_rfl)) rfl ?_ | refine bodyPost_ret (results_cell_row rfl _ W9 (w.heap.size + 2) 26 _ (0, 0) _ rfl q1 Tryz.underlying26 rfl (by kernel_rfl)) rfl ?_
    rw [← HU.out]
    exact ⟨rfl, q4 _ _ (by omega) HB2.out⟩
  · rw [if_neg h1] at hA hU
    obtain ⟨rfl, hb1⟩ := hA
    subst hU
    exact ⟨rfl, rfl, HB.out.trans (hb1.mono HB.out.size)⟩
set_option maxRecDepth 20000 in
set_option maxHeartbeats 3200000 in
theorem pair_9i (k1 : Int) (b1 : Bool) (i1 : Int) (s1 : ByteArray) (n1 l1 : Value) (k2 : Int) (b2 : Bool) (i2 : Int) (s2 : ByteArray) (n2 l2 : Value) (w : World) (U : Except Nat Int) (cI : ∀ W, Below w.heap.size w W → Calls Tryz.prog 133 #[vl k1 b1 i1 s1 n1 l1, vl k2 b2 i2 s2 n2 l2] W fun e w' => An W w' e (fun c : Int => v0 3 false c ⟨#[]⟩) U) :
    Calls Tryz.prog 109 #[.int .i64 9, vl k1 b1 i1 s1 n1 l1, vl k2 b2 i2 s2 n2 l2] w fun e w' => An w w' e (fun c : Int => v0 3 false c ⟨#[]⟩) U := by
  obtain ⟨W0, hW0, hs0, hb0, hp, hq, hr⟩ := two3 w #[.int .i64 k1, .bool b1, .int .i64 i1, .string s1, n1, l1] #[.int .i64 k2, .bool b2, .int .i64 i2, .string s2, n2, l2]
  have HR : Hid (W0.heap[w.heap.size + 2]? = some (.cells #[.int .i64 0, .bool false, .int .i64 0, .string ⟨#[]⟩, .slice none 0 0, .slice none 0 0] 26 (0, 0))) := hr
  have HB : Hid (Below w.heap.size w W0) := hb0
  obtain ⟨p0, p1, p2, p3, p4, p5⟩ := six_box hp
  obtain ⟨q0, q1, q2, q3, q4, q5⟩ := six_box hq
  have cI := cI W0 hb0
  clear hp hq hb0 hr
  go_enter Tryz.func109, Tryz.ntmps109
  go_upto_if 11 with fail
  refine wp_cond_true (by rfl) ?_
  refine wp_exit ?_
  repeat (first | (with_reducible refine ex_then ?_) | (with_reducible refine ex_skip (by decide) ?_))
  refine ex_hit ?_
  refine ex_norm ?_
  apply_assumption
  refine wp_mono (Q := Out ?outB) ?outM (out_mono ?outR ?outP)
  case outR => intro a w h; (repeat (first | (with_reducible refine rt_then ?_) | (with_reducible refine rt_blk ?_))); exact h
  case outP => intro c a w h; (repeat (first | (with_reducible refine pn_then ?_) | (with_reducible refine pn_blk ?_))); exact h
  try simp only [hW0]
  go_wp2_with fail
  try rw [hW0]
  refine cI.mono ?_
  intro e W2 hA
  clear cI
  cases U with
  | error c =>
    obtain ⟨rfl, hb1⟩ := hA
    exact ⟨rfl, rfl, HB.out.trans (hb1.mono HB.out.size)⟩
  | ok X =>
    obtain ⟨rfl, hb2⟩ := hA
    have HR1 := HR
    have HB1 := HB
    clear HR HB
    have hr := (hb2.block (w.heap.size + 2) (by omega)).trans HR1.out
    have HB2 : Hid (Below w.heap.size w W2) := HB1.out.trans (hb2.mono HB1.out.size)
    clear hb2 HB1 HR1
    obtain ⟨r0, r1, r2, r3, r4, r5⟩ := six_box hr
    have rf0 := frozen_box hr 0
    have rf1 := frozen_box hr 1
    have rf2 := frozen_box hr 2
    have rf3 := frozen_box hr 3
    have rf4 := frozen_box hr 4
    have rf5 := frozen_box hr 5
    go_wp2_with fail
    obtain ⟨W9, hW9⟩ : ∃ W9, ((((((W2.setCell ⟨w.heap.size + 2, 0, none⟩ (.int .i64 3)).setCell ⟨w.heap.size + 2, 1, none⟩ (.bool false)).setCell ⟨w.heap.size + 2, 2, none⟩ (.int .i64 X)).setCell ⟨w.heap.size + 2, 3, none⟩ (.string ⟨#[]⟩)).setCell ⟨w.heap.size + 2, 4, none⟩ (.slice none 0 0)).setCell ⟨w.heap.size + 2, 5, none⟩ (.slice none 0 0)) = W9 := ⟨_, rfl⟩
    rw [hW9]
    obtain ⟨q1, q2, q3, q4⟩ := set6 _ _ _ _ _ _ hr hW9
    first | refine out_ret (results_cell_row rfl _ W9 (w.heap.size + 2) 26 _ (0, 0) _ rfl q1 Tryz.underlying26 rfl (by kernel_rfl)) rfl ?_ | refine bodyPost_ret (results_cell_row rfl _ W9 (w.heap.size + 2) 26 _ (0, 0) _ rfl q1 Tryz.underlying26 rfl (by kernel_rfl)) rfl ?_
    exact ⟨rfl, q4 _ _ (by omega) HB2.out⟩
set_option maxRecDepth 20000 in
set_option maxHeartbeats 3200000 in
theorem pair_9s (k1 : Int) (b1 : Bool) (i1 : Int) (s1 : ByteArray) (n1 l1 : Value) (k2 : Int) (b2 : Bool) (i2 : Int) (s2 : ByteArray) (n2 l2 : Value) (w : World) (U : Except Nat ByteArray) (cI : ∀ W, Below w.heap.size w W → Calls Tryz.prog 133 #[vl k1 b1 i1 s1 n1 l1, vl k2 b2 i2 s2 n2 l2] W fun e w' => An W w' e (fun c : ByteArray => v0 4 false 0 c) U) :
    Calls Tryz.prog 109 #[.int .i64 9, vl k1 b1 i1 s1 n1 l1, vl k2 b2 i2 s2 n2 l2] w fun e w' => An w w' e (fun c : ByteArray => v0 4 false 0 c) U := by
  obtain ⟨W0, hW0, hs0, hb0, hp, hq, hr⟩ := two3 w #[.int .i64 k1, .bool b1, .int .i64 i1, .string s1, n1, l1] #[.int .i64 k2, .bool b2, .int .i64 i2, .string s2, n2, l2]
  have HR : Hid (W0.heap[w.heap.size + 2]? = some (.cells #[.int .i64 0, .bool false, .int .i64 0, .string ⟨#[]⟩, .slice none 0 0, .slice none 0 0] 26 (0, 0))) := hr
  have HB : Hid (Below w.heap.size w W0) := hb0
  obtain ⟨p0, p1, p2, p3, p4, p5⟩ := six_box hp
  obtain ⟨q0, q1, q2, q3, q4, q5⟩ := six_box hq
  have cI := cI W0 hb0
  clear hp hq hb0 hr
  go_enter Tryz.func109, Tryz.ntmps109
  go_upto_if 11 with fail
  refine wp_cond_true (by rfl) ?_
  refine wp_exit ?_
  repeat (first | (with_reducible refine ex_then ?_) | (with_reducible refine ex_skip (by decide) ?_))
  refine ex_hit ?_
  refine ex_norm ?_
  apply_assumption
  refine wp_mono (Q := Out ?outB) ?outM (out_mono ?outR ?outP)
  case outR => intro a w h; (repeat (first | (with_reducible refine rt_then ?_) | (with_reducible refine rt_blk ?_))); exact h
  case outP => intro c a w h; (repeat (first | (with_reducible refine pn_then ?_) | (with_reducible refine pn_blk ?_))); exact h
  try simp only [hW0]
  go_wp2_with fail
  try rw [hW0]
  refine cI.mono ?_
  intro e W2 hA
  clear cI
  cases U with
  | error c =>
    obtain ⟨rfl, hb1⟩ := hA
    exact ⟨rfl, rfl, HB.out.trans (hb1.mono HB.out.size)⟩
  | ok X =>
    obtain ⟨rfl, hb2⟩ := hA
    have HR1 := HR
    have HB1 := HB
    clear HR HB
    have hr := (hb2.block (w.heap.size + 2) (by omega)).trans HR1.out
    have HB2 : Hid (Below w.heap.size w W2) := HB1.out.trans (hb2.mono HB1.out.size)
    clear hb2 HB1 HR1
    obtain ⟨r0, r1, r2, r3, r4, r5⟩ := six_box hr
    have rf0 := frozen_box hr 0
    have rf1 := frozen_box hr 1
    have rf2 := frozen_box hr 2
    have rf3 := frozen_box hr 3
    have rf4 := frozen_box hr 4
    have rf5 := frozen_box hr 5
    go_wp2_with fail
    obtain ⟨W9, hW9⟩ : ∃ W9, ((((((W2.setCell ⟨w.heap.size + 2, 0, none⟩ (.int .i64 4)).setCell ⟨w.heap.size + 2, 1, none⟩ (.bool false)).setCell ⟨w.heap.size + 2, 2, none⟩ (.int .i64 0)).setCell ⟨w.heap.size + 2, 3, none⟩ (.string X)).setCell ⟨w.heap.size + 2, 4, none⟩ (.slice none 0 0)).setCell ⟨w.heap.size + 2, 5, none⟩ (.slice none 0 0)) = W9 := ⟨_, rfl⟩
    rw [hW9]
    obtain ⟨q1, q2, q3, q4⟩ := set6 _ _ _ _ _ _ hr hW9
    first | refine out_ret (results_cell_row rfl _ W9 (w.heap.size + 2) 26 _ (0, 0) _ rfl q1 Tryz.underlying26 rfl (by kernel_rfl)) rfl ?_ | refine bodyPost_ret (results_cell_row rfl _ W9 (w.heap.size + 2) 26 _ (0, 0) _ rfl q1 Tryz.underlying26 rfl (by kernel_rfl)) rfl ?_
    exact ⟨rfl, q4 _ _ (by omega) HB2.out⟩
end Go.Proofs.YtpaigpijaifeoaaGreatDoor.VCa

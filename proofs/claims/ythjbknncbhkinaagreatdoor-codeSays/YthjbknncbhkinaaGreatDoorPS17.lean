import Derived.Deep.RegionHeld3
import Derived.Lib.ItoaLen
import Derived.Test.YthjbknncbhkinaaGreatDoorPS00
import Derived.Test.YthjbknncbhkinaaGreatDoorPS03
import Derived.Test.YthjbknncbhkinaaGreatDoorPS04
import Derived.Test.YthjbknncbhkinaaGreatDoorPS07
import Derived.Test.YthjbknncbhkinaaGreatDoorPS12
import Derived.Test.YthjbknncbhkinaaGreatDoorPS16
open Go.Proofs.Tryz
set_option linter.unusedVariables false
set_option maxRecDepth 20000
set_option maxHeartbeats 3200000
namespace Go.Proofs.YthjbknncbhkinaaGreatDoor.VJn
open Tak
open Go.RowKit Base VPure VSm VIn
def Tb (w : World) : Prop := ∀ W', Below w.heap.size w W' -> Digits.Tab W'
theorem Tb.below {w w' : World} (h : Tb w) (hb : Below w.heap.size w w') : Tb w' := fun W hW => h W (hb.trans (hW.mono hb.size))
theorem txt_le {m : Nat} {v : Value} {c : C} {w : World} (h : Base.In false All w m v c) {x : ByteArray} (hx : txt c = .ok x) : x.size <= 140737488351232 := by
 obtain ⟨m', nv, lv, -, -, -, hi, hs, -, -⟩ := h.shape
 unfold txt at hx
 split at hx
 ·injection hx with hx
  subst hx
  obtain ⟨k, b, i, s, n, l⟩ := c
  simp only [C.i, C.s] at hi hs
  rw [TextKey.tx]
  have hl := Lib.itoa_length_le i hi.1 hi.2
  have he : (⟨(Lib.itoa i).toArray⟩ : ByteArray).size = (Lib.itoa i).length := by show (Lib.itoa i).toArray.size = _; simp
  repeat' split
  all_goals first | decide | exact hs | (rw [he]; omega)
 ·cases hx
theorem textOf_c {m : Nat} {v : Value} {c : C} {w : World} (h : Base.In false All w m v c) (ht : Tb w) :
  Calls prog 133 #[v] w fun e w' => An w w' e Value.string (txt c) := by
 have hin := h
 obtain ⟨m', nv, lv, hm, rfl, -⟩ := h.shape
 obtain ⟨W0, hW0⟩ : ∃ W0, w.alloc (.cells #[.int .i64 c.k, .bool c.b, .int .i64 c.i, .string c.s, nv, lv] 46) = W0 := ⟨_, rfl⟩
 have hb0 : Below w.heap.size w W0 := by rw [<- hW0]; exact (Below.refl _ w).alloc (Nat.le_refl _) _
 have hp : W0.heap[w.heap.size]? = some (.cells #[.int .i64 c.k, .bool c.b, .int .i64 c.i, .string c.s, nv, lv] 46 (0, 0)) := by rw [<- hW0]; exact heap_alloc_new w _
 obtain ⟨p0, p1, p2, p3, p4, p5⟩ := six_box hp
 have cT := TextKey.text_c (hin.below hb0) (ht W0 hb0)
 have HB : Hid (Below w.heap.size w W0) := hb0
 unfold txt
 generalize TextKey.te c = te at *
 generalize TextKey.tx c = tx at *
 generalize c.k = k at *
 generalize c.b = b at *
 generalize c.i = i at *
 generalize c.s = s at *
 clear h hin hb0 hp ht hm
 by_cases he : te = 0
 ·subst he
  rw [if_pos rfl]
  go_enter func133, ntmps133
  go_wp2_with fail
  try rw [hW0]
  refine cT.mono ?_
  rintro e W1 ⟨rfl, hb1⟩
  have HB1 : Hid (Below w.heap.size w W1) := HB.out.trans (hb1.mono HB.out.size)
  have c1 := must_t W1
  clear hb1 cT HB p0 p1 p2 p3 p4 p5 hW0
  go_wp2_with fail
  refine c1.mono ?_
  rintro e W2 ⟨⟨v2, rfl⟩, rfl⟩
  go_wp2_with fail
  go_ret
  exact ⟨rfl, HB1.out⟩
 ·rw [if_neg he]
  have d : (te == 0) = false := by simp [he]
  clear he
  go_enter func133, ntmps133
  go_wp2_with fail
  try rw [hW0]
  refine cT.mono ?_
  rintro e W1 ⟨rfl, hb1⟩
  have HB1 : Hid (Below w.heap.size w W1) := HB.out.trans (hb1.mono HB.out.size)
  have c1 := must_f W1
  clear hb1 cT HB p0 p1 p2 p3 p4 p5 hW0
  go_wp2_with fail
  refine c1.mono ?_
  rintro e W2 ⟨rfl, rfl⟩
  exact ⟨rfl, rfl, HB1.out⟩
theorem join_c {m1 m2 : Nat} {c1 c2 : C} (k1 : Int) (b1 : Bool) (i1 : Int) (s1 : ByteArray) (n1 l1 : Value) (k2 : Int) (b2 : Bool) (i2 : Int) (s2 : ByteArray) (n2 l2 : Value) {w : World} (hi1 : Base.In false All w m1 (vl k1 b1 i1 s1 n1 l1) c1) (hi2 : Base.In false All w m2 (vl k2 b2 i2 s2 n2 l2) c2) (ht : Tb w) : Calls prog 115 #[vl k1 b1 i1 s1 n1 l1, vl k2 b2 i2 s2 n2 l2] w fun e w' => An w w' e (fun s : ByteArray => v0 4 false 0 s) (bnd (txt c1) fun x => bnd (txt c2) fun y => if 4096 < x.size + y.size then .error 1107 else .ok (x ++ y)) := by
 obtain ⟨W0, hW0, hs0, hb0, hp, hq, hr⟩ := two3 w #[.int .i64 k1, .bool b1, .int .i64 i1, .string s1, n1, l1] #[.int .i64 k2, .bool b2, .int .i64 i2, .string s2, n2, l2]
 have HP : Hid (W0.heap[w.heap.size]? = some (.cells #[.int .i64 k1, .bool b1, .int .i64 i1, .string s1, n1, l1] 46 (0, 0))) := hp
 have HQ : Hid (W0.heap[w.heap.size + 1]? = some (.cells #[.int .i64 k2, .bool b2, .int .i64 i2, .string s2, n2, l2] 46 (0, 0))) := hq
 have HB : Hid (Below w.heap.size w W0) := hb0
 have hsD : W0.drew.heap.size = w.heap.size + 3 := by simp [hs0]
 obtain ⟨p0, p1, p2, p3, p4, p5⟩ := six_box hp
 obtain ⟨q0, q1, q2, q3, q4, q5⟩ := six_box hq
 have HR : Hid (W0.heap[w.heap.size + 2]? = some (.cells #[.int .i64 0, .bool false, .int .i64 0, .string ⟨#[]⟩, .slice none 0 0, .slice none 0 0] 46 (0, 0))) := hr
 have z1 : ∀ W, Below W0.drew.heap.size W0.drew W -> Below w.heap.size w W := fun W h => bel_d hb0 h
 have cA : ∀ W, Below w.heap.size w W -> Calls prog 133 #[vl k1 b1 i1 s1 n1 l1] W fun e w' => An W w' e Value.string (txt c1) := fun W h => textOf_c (hi1.below h) (ht.below h)
 have cB : ∀ W, Below w.heap.size w W -> Calls prog 133 #[vl k2 b2 i2 s2 n2 l2] W fun e w' => An W w' e Value.string (txt c2) := fun W h => textOf_c (hi2.below h) (ht.below h)
 have cA := cA _ (z1 _ (Below.refl _ _))
 have HcB : Hid _ := cB
 have hz1 := fun x => @txt_le _ _ _ _ hi1 x
 have hz2 := fun x => @txt_le _ _ _ _ hi2 x
 clear hp hq hb0 hr hi1 hi2 ht z1 cB
 generalize txt c1 = T1 at *
 generalize txt c2 = T2 at *
 cases T1 with
 | error c =>
  go_enter func115, ntmps115
  go_wp2_with fail
  try rw [hW0]
  refine wp_region_held_drew (S := fun w' => (w'.cell? ⟨w.heap.size, 0, none⟩ = some (.int .i64 k1) /\ w'.cell? ⟨w.heap.size, 1, none⟩ = some (.bool b1) /\ w'.cell? ⟨w.heap.size, 2, none⟩ = some (.int .i64 i1) /\ w'.cell? ⟨w.heap.size, 3, none⟩ = some (.string s1) /\ w'.cell? ⟨w.heap.size, 4, none⟩ = some (n1) /\ w'.cell? ⟨w.heap.size, 5, none⟩ = some (l1)) /\ (w'.cell? ⟨w.heap.size + 1, 0, none⟩ = some (.int .i64 k2) /\ w'.cell? ⟨w.heap.size + 1, 1, none⟩ = some (.bool b2) /\ w'.cell? ⟨w.heap.size + 1, 2, none⟩ = some (.int .i64 i2) /\ w'.cell? ⟨w.heap.size + 1, 3, none⟩ = some (.string s2) /\ w'.cell? ⟨w.heap.size + 1, 4, none⟩ = some (n2) /\ w'.cell? ⟨w.heap.size + 1, 5, none⟩ = some (l2))) (by kernel_rfl) (by first | assumption | go_keep) (fun hHeld => ?_)
  refine tkH 0 rfl ?_; try simp only [ptH]
  refine tkH 2 rfl ?_; try simp only [ptH]
  refine rdH [1] ?_
  refine alH rfl fun K hK => ?_
  go_simp
  refine cA.mono ?_
  rintro e W1 ⟨rfl, hb1⟩
  exact ⟨rfl, rfl, bel_d HB.out hb1⟩
 | ok x =>
  cases T2 with
  | error c =>
   go_enter func115, ntmps115
   go_wp2_with fail
   try rw [hW0]
   refine wp_region_held_drew (S := fun w' => (w'.cell? ⟨w.heap.size, 0, none⟩ = some (.int .i64 k1) /\ w'.cell? ⟨w.heap.size, 1, none⟩ = some (.bool b1) /\ w'.cell? ⟨w.heap.size, 2, none⟩ = some (.int .i64 i1) /\ w'.cell? ⟨w.heap.size, 3, none⟩ = some (.string s1) /\ w'.cell? ⟨w.heap.size, 4, none⟩ = some (n1) /\ w'.cell? ⟨w.heap.size, 5, none⟩ = some (l1)) /\ (w'.cell? ⟨w.heap.size + 1, 0, none⟩ = some (.int .i64 k2) /\ w'.cell? ⟨w.heap.size + 1, 1, none⟩ = some (.bool b2) /\ w'.cell? ⟨w.heap.size + 1, 2, none⟩ = some (.int .i64 i2) /\ w'.cell? ⟨w.heap.size + 1, 3, none⟩ = some (.string s2) /\ w'.cell? ⟨w.heap.size + 1, 4, none⟩ = some (n2) /\ w'.cell? ⟨w.heap.size + 1, 5, none⟩ = some (l2))) (by kernel_rfl) (by first | assumption | go_keep) (fun hHeld => ?_)
   refine tkH 0 rfl ?_; try simp only [ptH]
   refine tkH 2 rfl ?_; try simp only [ptH]
   refine rdH [1] ?_
   refine alH rfl fun K hK => ?_
   go_simp
   refine cA.mono ?_
   rintro e W1 ⟨rfl, hb1⟩
   have hp1 := (hb1.block w.heap.size (by rw [hsD]; omega)).trans HP.out
   have hq1 := (hb1.block (w.heap.size + 1) (by rw [hsD]; omega)).trans HQ.out
   obtain ⟨x0, x1, x2, x3, x4, x5⟩ := six_box hp1
   obtain ⟨y0, y1, y2, y3, y4, y5⟩ := six_box hq1
   have HR1 : Hid (W1.heap[w.heap.size + 2]? = some (.cells #[.int .i64 0, .bool false, .int .i64 0, .string ⟨#[]⟩, .slice none 0 0, .slice none 0 0] 46 (0, 0))) := (hb1.block (w.heap.size + 2) (by rw [hsD]; omega)).trans HR.out
   have HB1 : Hid (Below w.heap.size w W1) := bel_d HB.out hb1
   have HP1 : Hid _ := hp1
   have HQ1 : Hid _ := hq1
   have hs1 := hb1.size
   rw [hsD] at hs1
   have cB := HcB.out W1 HB1.out
   clear hp1 hq1 hb1 HR
   go_wp2_with fail
   refine hK.out _ _ (by first | assumption | go_keep) (fun hHeld => ?_)
   clear hK K
   try simp only [ptH]
   refine rdH [3] ?_
   refine alH rfl fun K hK => ?_
   go_simp
   refine cB.mono ?_
   rintro e W2 ⟨rfl, hb2⟩
   exact ⟨rfl, rfl, HB1.out.trans (hb2.mono HB1.out.size)⟩
  | ok y =>
   have hz1 := hz1 x rfl
   have hz2 := hz2 y rfl
   show Calls _ _ _ _ fun e w' => An w w' e _ (if 4096 < x.size + y.size then .error 1107 else .ok (x ++ y))
   by_cases hl : 4096 < x.size + y.size
   ·have d : decide ((4096 : Int) < (x.size : Int) + (y.size : Int)) = true := decide_eq_true (by omega)
    rw [if_pos hl]
    unfold pkE at *
    clear hl
    go_enter func115, ntmps115
    go_wp2_with fail
    try rw [hW0]
    refine wp_region_held_drew (S := fun w' => (w'.cell? ⟨w.heap.size, 0, none⟩ = some (.int .i64 k1) /\ w'.cell? ⟨w.heap.size, 1, none⟩ = some (.bool b1) /\ w'.cell? ⟨w.heap.size, 2, none⟩ = some (.int .i64 i1) /\ w'.cell? ⟨w.heap.size, 3, none⟩ = some (.string s1) /\ w'.cell? ⟨w.heap.size, 4, none⟩ = some (n1) /\ w'.cell? ⟨w.heap.size, 5, none⟩ = some (l1)) /\ (w'.cell? ⟨w.heap.size + 1, 0, none⟩ = some (.int .i64 k2) /\ w'.cell? ⟨w.heap.size + 1, 1, none⟩ = some (.bool b2) /\ w'.cell? ⟨w.heap.size + 1, 2, none⟩ = some (.int .i64 i2) /\ w'.cell? ⟨w.heap.size + 1, 3, none⟩ = some (.string s2) /\ w'.cell? ⟨w.heap.size + 1, 4, none⟩ = some (n2) /\ w'.cell? ⟨w.heap.size + 1, 5, none⟩ = some (l2))) (by kernel_rfl) (by first | assumption | go_keep) (fun hHeld => ?_)
    refine tkH 0 rfl ?_; try simp only [ptH]
    refine tkH 2 rfl ?_; try simp only [ptH]
    refine rdH [1] ?_
    refine alH rfl fun K hK => ?_
    go_simp
    refine cA.mono ?_
    rintro e W1 ⟨rfl, hb1⟩
    have hp1 := (hb1.block w.heap.size (by rw [hsD]; omega)).trans HP.out
    have hq1 := (hb1.block (w.heap.size + 1) (by rw [hsD]; omega)).trans HQ.out
    obtain ⟨x0, x1, x2, x3, x4, x5⟩ := six_box hp1
    obtain ⟨y0, y1, y2, y3, y4, y5⟩ := six_box hq1
    have HR1 : Hid (W1.heap[w.heap.size + 2]? = some (.cells #[.int .i64 0, .bool false, .int .i64 0, .string ⟨#[]⟩, .slice none 0 0, .slice none 0 0] 46 (0, 0))) := (hb1.block (w.heap.size + 2) (by rw [hsD]; omega)).trans HR.out
    have HB1 : Hid (Below w.heap.size w W1) := bel_d HB.out hb1
    have HP1 : Hid _ := hp1
    have HQ1 : Hid _ := hq1
    have hs1 := hb1.size
    rw [hsD] at hs1
    have cB := HcB.out W1 HB1.out
    clear hp1 hq1 hb1 HR
    go_wp2_with fail
    refine hK.out _ _ (by first | assumption | go_keep) (fun hHeld => ?_)
    clear hK K
    try simp only [ptH]
    refine rdH [3] ?_
    refine alH rfl fun K hK => ?_
    go_simp
    refine cB.mono ?_
    rintro e W2 ⟨rfl, hb2⟩
    obtain ⟨z0, z1, z2, z3, z4, z5⟩ := six_box ((hb2.block w.heap.size (by omega)).trans HP1.out)
    obtain ⟨t0, t1, t2, t3, t4, t5⟩ := six_box ((hb2.block (w.heap.size + 1) (by omega)).trans HQ1.out)
    have HR2 : Hid (W2.heap[w.heap.size + 2]? = some (.cells #[.int .i64 0, .bool false, .int .i64 0, .string ⟨#[]⟩, .slice none 0 0, .slice none 0 0] 46 (0, 0))) := (hb2.block (w.heap.size + 2) (by omega)).trans HR1.out
    have HB2 : Hid (Below w.heap.size w W2) := HB1.out.trans (hb2.mono HB1.out.size)
    have hs2 := hb2.size
    clear hb2
    go_wp2_with fail
    refine hK.out _ _ (by first | assumption | go_keep) (fun hHeld => ?_)
    clear hK K
    try simp only [ptH]
    refine tkH 4 rfl ?_; try simp only [ptH]
    refine tkH 5 rfl ?_; try simp only [ptH]
    refine dnH ?_
    clear HP HQ HP1 HQ1 HcB cA cB p0 p1 p2 p3 p4 p5 q0 q1 q2 q3 q4 q5 x0 x1 x2 x3 x4 x5 y0 y1 y2 y3 y4 y5 z0 z1 z2 z3 z4 z5 t0 t1 t2 t3 t4 t5 hHeld
    go_wp2_with fail
    exact ⟨rfl, rfl, HB2.out⟩
   ·have d : decide ((4096 : Int) < (x.size : Int) + (y.size : Int)) = false := decide_eq_false (by omega)
    rw [if_neg hl]
    have hsm : x.size + y.size <= 4096 := by omega
    clear hl
    go_enter func115, ntmps115
    go_wp2_with fail
    try rw [hW0]
    refine wp_region_held_drew (S := fun w' => (w'.cell? ⟨w.heap.size, 0, none⟩ = some (.int .i64 k1) /\ w'.cell? ⟨w.heap.size, 1, none⟩ = some (.bool b1) /\ w'.cell? ⟨w.heap.size, 2, none⟩ = some (.int .i64 i1) /\ w'.cell? ⟨w.heap.size, 3, none⟩ = some (.string s1) /\ w'.cell? ⟨w.heap.size, 4, none⟩ = some (n1) /\ w'.cell? ⟨w.heap.size, 5, none⟩ = some (l1)) /\ (w'.cell? ⟨w.heap.size + 1, 0, none⟩ = some (.int .i64 k2) /\ w'.cell? ⟨w.heap.size + 1, 1, none⟩ = some (.bool b2) /\ w'.cell? ⟨w.heap.size + 1, 2, none⟩ = some (.int .i64 i2) /\ w'.cell? ⟨w.heap.size + 1, 3, none⟩ = some (.string s2) /\ w'.cell? ⟨w.heap.size + 1, 4, none⟩ = some (n2) /\ w'.cell? ⟨w.heap.size + 1, 5, none⟩ = some (l2))) (by kernel_rfl) (by first | assumption | go_keep) (fun hHeld => ?_)
    refine tkH 0 rfl ?_; try simp only [ptH]
    refine tkH 2 rfl ?_; try simp only [ptH]
    refine rdH [1] ?_
    refine alH rfl fun K hK => ?_
    go_simp
    refine cA.mono ?_
    rintro e W1 ⟨rfl, hb1⟩
    have hp1 := (hb1.block w.heap.size (by rw [hsD]; omega)).trans HP.out
    have hq1 := (hb1.block (w.heap.size + 1) (by rw [hsD]; omega)).trans HQ.out
    obtain ⟨x0, x1, x2, x3, x4, x5⟩ := six_box hp1
    obtain ⟨y0, y1, y2, y3, y4, y5⟩ := six_box hq1
    have HR1 : Hid (W1.heap[w.heap.size + 2]? = some (.cells #[.int .i64 0, .bool false, .int .i64 0, .string ⟨#[]⟩, .slice none 0 0, .slice none 0 0] 46 (0, 0))) := (hb1.block (w.heap.size + 2) (by rw [hsD]; omega)).trans HR.out
    have HB1 : Hid (Below w.heap.size w W1) := bel_d HB.out hb1
    have HP1 : Hid _ := hp1
    have HQ1 : Hid _ := hq1
    have hs1 := hb1.size
    rw [hsD] at hs1
    have cB := HcB.out W1 HB1.out
    clear hp1 hq1 hb1 HR
    go_wp2_with fail
    refine hK.out _ _ (by first | assumption | go_keep) (fun hHeld => ?_)
    clear hK K
    try simp only [ptH]
    refine rdH [3] ?_
    refine alH rfl fun K hK => ?_
    go_simp
    refine cB.mono ?_
    rintro e W2 ⟨rfl, hb2⟩
    obtain ⟨z0, z1, z2, z3, z4, z5⟩ := six_box ((hb2.block w.heap.size (by omega)).trans HP1.out)
    obtain ⟨t0, t1, t2, t3, t4, t5⟩ := six_box ((hb2.block (w.heap.size + 1) (by omega)).trans HQ1.out)
    have HR2 : Hid (W2.heap[w.heap.size + 2]? = some (.cells #[.int .i64 0, .bool false, .int .i64 0, .string ⟨#[]⟩, .slice none 0 0, .slice none 0 0] 46 (0, 0))) := (hb2.block (w.heap.size + 2) (by omega)).trans HR1.out
    have HB2 : Hid (Below w.heap.size w W2) := HB1.out.trans (hb2.mono HB1.out.size)
    have hs2 := hb2.size
    clear hb2
    go_wp2_with fail
    refine hK.out _ _ (by first | assumption | go_keep) (fun hHeld => ?_)
    clear hK K
    try simp only [ptH]
    refine tkH 4 rfl ?_; try simp only [ptH]
    refine tkH 5 rfl ?_; try simp only [ptH]
    refine dnH ?_
    clear HP HQ HP1 HQ1 HcB cA cB p0 p1 p2 p3 p4 p5 q0 q1 q2 q3 q4 q5 x0 x1 x2 x3 x4 x5 y0 y1 y2 y3 y4 y5 z0 z1 z2 z3 z4 z5 t0 t1 t2 t3 t4 t5 hHeld
    have cX := text_c (x ++ y) W2
    go_wp2_with fail
    refine cX.mono ?_
    rintro e W3 ⟨rfl, hb3⟩
    have hr := (hb3.block (w.heap.size + 2) (by omega)).trans HR2.out
    have HB3 : Hid (Below w.heap.size w W3) := HB2.out.trans (hb3.mono HB2.out.size)
    clear hb3 cX
    obtain ⟨r0, r1, r2, r3, r4, r5⟩ := six_box hr
    have rf0 := frozen_box hr 0
    have rf1 := frozen_box hr 1
    have rf2 := frozen_box hr 2
    have rf3 := frozen_box hr 3
    have rf4 := frozen_box hr 4
    have rf5 := frozen_box hr 5
    go_wp2_with fail
    obtain ⟨W9, hW9⟩ : ∃ W9, ((((((W3.setCell ⟨w.heap.size + 2, 0, none⟩ (.int .i64 4)).setCell ⟨w.heap.size + 2, 1, none⟩ (.bool false)).setCell ⟨w.heap.size + 2, 2, none⟩ (.int .i64 0)).setCell ⟨w.heap.size + 2, 3, none⟩ (.string (x ++ y))).setCell ⟨w.heap.size + 2, 4, none⟩ (.slice none 0 0)).setCell ⟨w.heap.size + 2, 5, none⟩ (.slice none 0 0)) = W9 := ⟨_, rfl⟩
    rw [hW9]
    obtain ⟨q1, q2, q3, q4⟩ := set6 _ _ _ _ _ _ hr hW9
    refine bodyPost_ret (results_cell_row rfl _ W9 (w.heap.size + 2) 46 _ (0, 0) _ rfl q1 underlying46 rfl (by kernel_rfl)) rfl ?_
    exact ⟨rfl, q4 _ _ (by omega) HB3.out⟩
end Go.Proofs.YthjbknncbhkinaaGreatDoor.VJn
namespace Go.Proofs.YthjbknncbhkinaaGreatDoor.VRs
open Go.RowKit Base VPure VSm Sums
def VR (K m : Nat) (w : World) (a : Ans) (e : Ending) (w' : World) : Prop := Below w.heap.size w w' /\ match a with
 | .ok c => ∃ u, e = .returned u /\ Base.In false (fun b => b < K) w' m u c
 | .error n => e = .panicked (pkE n)
theorem in_low {K m : Nat} {w w' : World} {u : Value} {c : C} (h : Base.In false (fun b => b < K) w m u c) (hb : Below K w w') : Base.In false (fun b => b < K) w' m u c := h.keep fun b hb' _ => hb.block b hb'
theorem in_v0 (S : Nat -> Prop) (w : World) (m : Nat) {k i : Int} (b : Bool) {s : ByteArray} (hk : -9223372036854775808 <= k /\ k <= 9223372036854775807) (hi : -9223372036854775808 <= i /\ i <= 9223372036854775807) (hs : s.size <= 140737488351232) :
  Base.In false S w (m + 1) (v0 k b i s) (.mk k b i s [] []) := by
 rw [Base.in_iff]
 refine ⟨_, _, rfl, hk, hi, hs, ⟨none, 0, rfl, Nat.le_refl _, Nat.zero_le _, by simp, by simp, fun _ => rfl, .inl ⟨rfl, rfl⟩⟩, none, 0, rfl, Nat.le_refl _, Nat.zero_le _, by simp, fun _ => rfl, .inl ⟨rfl, rfl⟩⟩
theorem in_int (S : Nat -> Prop) (w : World) (m : Nat) {i : Int} (hi : -9223372036854775808 <= i /\ i <= 9223372036854775807) : Base.In false S w (m + 1) (v0 3 false i ⟨#[]⟩) (intC i) := in_v0 S w m false (by omega) hi (by decide)
theorem in_boo (S : Nat -> Prop) (w : World) (m : Nat) (b : Bool) : Base.In false S w (m + 1) (v0 2 b 0 ⟨#[]⟩) (booC b) := in_v0 S w m b (by omega) (by omega) (by decide)
theorem in_str (S : Nat -> Prop) (w : World) (m : Nat) {s : ByteArray} (hs : s.size <= 140737488351232) : Base.In false S w (m + 1) (v0 4 false 0 s) (strC s) := in_v0 S w m false (by omega) (by omega) hs
theorem in_nul (S : Nat -> Prop) (w : World) (m : Nat) : Base.In false S w (m + 1) (v0 1 false 0 ⟨#[]⟩) nulC := in_v0 S w m false (by omega) (by omega) (by decide)
theorem in_zer (S : Nat -> Prop) (w : World) (m : Nat) : Base.In false S w (m + 1) (v0 0 false 0 ⟨#[]⟩) zerC := in_v0 S w m false (by omega) (by omega) (by decide)
theorem wh_rng {o x y : Int} (hx : -9223372036854775808 <= x /\ x <= 9223372036854775807) : -9223372036854775808 <= (wh o x y).1 /\ (wh o x y).1 <= 9223372036854775807 := by
 unfold wh
 have hn : ∀ z : Int, -9223372036854775808 <= num z /\ num z <= 9223372036854775807 := fun z => ⟨num_ge z, num_le z⟩
 repeat' split
 all_goals first
  | exact hn _
  | (unfold WhA.dnum; split; (omega); exact hn _)
  | (unfold WhA.mnum; split; (omega); exact WhA.tmod_range _ hx.1 hx.2)
  | exact WhA.div_range hx.1 hx.2 (Int.pow_pos (by omega))
  | (exact ⟨by omega, by omega⟩)
theorem an_vr {K m : Nat} {w w' : World} {e : Ending} {a : Except Nat Int} (hr : ∀ c, a = .ok c -> -9223372036854775808 <= c /\ c <= 9223372036854775807) (h : An w w' e (fun c : Int => v0 3 false c ⟨#[]⟩) a) : VR K (m + 1) w (mapI a) e w' := by
 cases a with
 | error n => exact ⟨h.2, h.1⟩
 | ok c => exact ⟨h.2, _, h.1, in_int _ w' m (hr c rfl)⟩
theorem tw_ok {k1 k2 x e0 c : Int} (h : twI k1 k2 x e0 = .ok c) : c = x := by
 unfold twI chkI at h
 repeat' split at h
 all_goals first | (injection h with h; exact h.symm) | (cases h)
theorem in_shape {S : Nat -> Prop} {w : World} {m : Nat} {u : Value} {c : C} (h : Base.In false S w m u c) : ∃ an ln cn al ll cl, u = vl c.k c.b c.i c.s (.slice an ln cn) (.slice al ll cl) := by
 obtain ⟨m', nv, lv, -, hu, -, -, -, hn, hl⟩ := h.shape
 obtain ⟨an, cn, rfl, -⟩ := hn
 obtain ⟨al, cl, rfl, -⟩ := hl
 exact ⟨an, _, cn, al, _, cl, hu⟩
theorem in_rng {S : Nat -> Prop} {w : World} {m : Nat} {u : Value} {c : C} (h : Base.In false S w m u c) : -9223372036854775808 <= c.i /\ c.i <= 9223372036854775807 := by
 obtain ⟨m', nv, lv, -, hu, -, hi, -, -, -⟩ := h.shape
 exact hi
end Go.Proofs.YthjbknncbhkinaaGreatDoor.VRs
namespace Go.Proofs.YthjbknncbhkinaaGreatDoor.MBx
open Tak
open Go.RowKit Base VSm VRs
abbrev ptr (M : Nat) : Value := .pointer (some ⟨M, 0, none⟩)
structure Mc (K m : Nat) (w : World) (M : Nat) (tv sv pv : Value) (p : List C) : Prop where
 box : w.heap[M]? = some (.cells #[tv, sv, pv] 90 (0, 0))
 low : K <= M
 own : ∃ us, OwnV w (M + 1) pv us /\ us.length = p.length /\ ∀ j (h : j < us.length) (h' : j < p.length), Base.In false (fun b => b < K) w m us[j] p[j]
structure Km (M : Nat) (pv : Value) (w w' : World) : Prop where
 below : Below M w w'
 other : ∀ b, b < w.heap.size -> b ≠ M -> some b ≠ pv.ownBlock -> w'.heap[b]? = w.heap[b]?
theorem Mc.lt {K m : Nat} {w : World} {M : Nat} {tv sv pv : Value} {p : List C} (h : Mc K m w M tv sv pv p) : M < w.heap.size := (Array.getElem?_eq_some_iff.1 h.box).1
theorem pshape {w : World} {lo : Nat} {tv : Value} {us : List Value} (h : OwnV w lo tv us) : ∃ a cap, tv = .slice a us.length cap /\ us.length <= cap /\ cap <= 9223372036854775807 := by
 rcases h.1.2 with ⟨rfl, e⟩ | ⟨g, cap, cur, rfl, h2, h3, h4, h5, h6⟩
 ·exact ⟨none, 0, by rw [e], by omega, by omega⟩
 ·exact ⟨_, cap, rfl, h4, by unfold maxLen at h5; omega⟩
theorem Mc.own_ne {K m : Nat} {w : World} {M : Nat} {tv sv pv : Value} {p : List C} (h : Mc K m w M tv sv pv p) {g : Nat} (hg : pv.ownBlock = some g) : M < g /\ g < w.heap.size := by
 obtain ⟨us, ho, -⟩ := h.own
 have := World.ownsRow.lt ho.1 g hg
 omega
theorem Mc.keep {K m : Nat} {w w' : World} {M : Nat} {tv sv pv : Value} {p : List C} (h : Mc K m w M tv sv pv p) (hb : ∀ b, b < w.heap.size -> (b < K \/ b = M \/ pv.ownBlock = some b) -> w'.heap[b]? = w.heap[b]?) : Mc K m w' M tv sv pv p := by
 have hlt := h.lt
 have hlow := h.low
 obtain ⟨us, h1, h2, h3⟩ := h.own
 refine ⟨(hb M hlt (.inr (.inl rfl))).trans h.box, h.low, us, ⟨Fresh.own_keep h1.1 fun g hg => hb g (World.ownsRow.lt h1.1 g hg).2 (.inr (.inr hg)), h1.2⟩, h2, fun j a b => (h3 j a b).keep (fun g hg hg2 => hb g hg2 (.inl hg))⟩
theorem Mc.below {K m : Nat} {w w' : World} {M : Nat} {tv sv pv : Value} {p : List C} (h : Mc K m w M tv sv pv p) (hb : Below w.heap.size w w') : Mc K m w' M tv sv pv p := h.keep fun b hl _ => hb.block b hl
theorem Km.of_below {M : Nat} {pv : Value} {w w' : World} (h : Below w.heap.size w w') (hM : M <= w.heap.size) : Km M pv w w' := ⟨h.mono hM, fun b hb _ _ => h.block b hb⟩
theorem Km.trans {M : Nat} {pv pv' : Value} {w w1 w2 : World} (h : Km M pv w w1) (k : Km M pv' w1 w2) (he : pv'.ownBlock = pv.ownBlock \/ ∃ g, pv'.ownBlock = some g /\ w.heap.size <= g) : Km M pv w w2 := by
 refine ⟨h.below.trans k.below, fun b hb h1 h2 => ?_⟩
 have hs := h.below.size
 rw [k.other b (by omega) h1 ?_, h.other b hb h1 h2]
 rcases he with e | ⟨g, e, hg⟩
 ·rw [e]; exact h2
 ·rw [e]
  intro e2
  have := Option.some.inj e2
  omega
theorem Mc.last {K m : Nat} {w : World} {M : Nat} {tv sv pv : Value} {q : List C} {c : C} (h : Mc K m w M tv sv pv (q ++ [c])) : ∃ g cap u, pv = .slice (some ⟨g, 0, none⟩) (q.length + 1) cap /\ q.length + 1 <= cap /\ cap <= 9223372036854775807 /\ Six w g (q.length * 6) u /\ Base.In false (fun b => b < K) w m u c := by
 obtain ⟨us, h1, h2, h3⟩ := h.own
 simp at h2
 obtain ⟨a, cap, e, hc1, hc2⟩ := pshape h1
 rcases h1.1.2 with ⟨e1, e2⟩ | ⟨g, cap', cur, e1, -⟩
 ·omega
 ·rw [e1] at h1 e ⊢
  cases e
  have h6 := ownV_six h1 q.length (by omega)
  rw [Nat.zero_add] at h6
  have h7 := h3 q.length (by omega) (by simp)
  simp at h7
  exact ⟨g, cap, _, by rw [h2], by omega, hc2, h6, h7⟩
theorem own_front {w : World} {lo g n cap : Nat} {us : List Value} {u : Value} (h : OwnV w lo (.slice (some ⟨g, 0, none⟩) n cap) (us ++ [u])) : OwnV w lo (.slice (some ⟨g, 0, none⟩) us.length cap) us := by
 have hs : Sixes us := fun x hx => h.2 x (List.mem_append_left _ hx)
 refine ⟨⟨flat_len hs, ?_⟩, hs⟩
 rcases h.1.2 with ⟨e, e0⟩ | ⟨g', cp, cur, e, hb, hc, hle, hm, hsz, htk⟩
 ·cases e
 ·cases e
  rw [List.length_append] at hle htk
  simp at hle
  refine .inr ⟨g, cap, cur, rfl, hb, hc, by omega, hm, hsz, ?_⟩
  rw [flat_append] at htk
  have e2 := congrArg (List.take (us.length * 6)) htk
  rw [List.take_append_of_le_length (Nat.le_of_eq (flat_len hs).symm), List.take_of_length_le (Nat.le_of_eq (flat_len hs)), List.take_take] at e2
  rw [<- e2]
  congr 1
  simp
theorem top_c {K m : Nat} {w : World} {M : Nat} {tv sv pv : Value} {q : List C} {c : C} (h : Mc K m w M tv sv pv (q ++ [c])) (hq : q.length <= 65536) :
  Calls prog 99 #[ptr M] w fun e w' => ∃ u, e = .returned u /\ Base.In false (fun b => b < K) w' m u c /\ Below w.heap.size w w' := by
 obtain ⟨g, cap, u, rfl, hc1, hc2, h6, hin⟩ := h.last
 obtain ⟨W0, hW0⟩ : ∃ W0, w.alloc (.cells #[.int .i64 0, .bool false, .int .i64 0, .string ⟨#[]⟩, .slice none 0 0, .slice none 0 0] 46) = W0 := ⟨_, rfl⟩
 have b0 : Below w.heap.size w W0 := by rw [<- hW0]; exact (Below.refl _ w).alloc (Nat.le_refl _) _
 have x0 : W0.heap[w.heap.size]? = some (.cells #[.int .i64 0, .bool false, .int .i64 0, .string ⟨#[]⟩, .slice none 0 0, .slice none 0 0] 46 (0, 0)) := by rw [<- hW0]; exact heap_alloc_new w _
 obtain ⟨r0, r1, r2, r3, r4, r5⟩ := six_box x0
 have f0 := frozen_box x0 0
 have f1 := frozen_box x0 1
 have f2 := frozen_box x0 2
 have f3 := frozen_box x0 3
 have f4 := frozen_box x0 4
 have f5 := frozen_box x0 5
 have kM : W0.cell? ⟨M, 2, none⟩ = some (.slice (some ⟨g, 0, none⟩) (q.length + 1) cap) := by
  have := (b0.block M h.lt).trans h.box
  simp [World.cell?, this]
 have hin0 := hin.below b0
 obtain ⟨an, ln, cn, al, ll, cl, rfl⟩ := in_shape hin
 obtain ⟨y0, y1, y2, y3, y4, y5, E, e0, e1, e2, e3, e4, e5⟩ := six_below h6 b0
 simp only [Value.agg.injEq, Array.mk.injEq, List.cons.injEq, and_true] at E
 obtain ⟨rfl, rfl, rfl, rfl, rfl, rfl⟩ := E
 have hgn : g ≠ w.heap.size := by have := h.own_ne (g := g) rfl; omega
 have hgm : w.heap.size ≠ g := fun e => hgn e.symm
 have hMn : M ≠ w.heap.size := by have := h.lt; omega
 have hMm : w.heap.size ≠ M := fun e => hMn e.symm
 have hKw : K <= w.heap.size := by have := h.lt; have := h.low; omega
 have HB0 : Hid (Below w.heap.size w W0) := b0
 have HIN : Hid _ := hin0
 have HX : Hid _ := x0
 generalize q.length = n at *
 have hi1 : (n : Int) < (n : Int) + 1 := by omega
 have hi2 : (0 : Int) <= (n : Int) := by omega
 have hi3 : IntKind.i64.wrap (n : Int) = (n : Int) := by rw [IntKind.wrap_i64]; omega
 clear h h6 hin hin0 b0 x0
 go_enter func99, ntmps99
 go_wp2_with fail
 go_region_held3 (fun w' => w'.cell? ⟨M, 2, none⟩ = some (.slice (some ⟨g, 0, none⟩) (n + 1) cap) /\ w'.cell? ⟨g, n * 6, none⟩ = some (.int .i64 c.k) /\ w'.cell? ⟨g, n * 6 + 1, none⟩ = some (.bool c.b) /\ w'.cell? ⟨g, n * 6 + 2, none⟩ = some (.int .i64 c.i) /\ w'.cell? ⟨g, n * 6 + 3, none⟩ = some (.string c.s) /\ w'.cell? ⟨g, n * 6 + 4, none⟩ = some (.slice an ln cn) /\ w'.cell? ⟨g, n * 6 + 5, none⟩ = some (.slice al ll cl)) (go_keep) (fail)
 obtain ⟨W9, hW9⟩ : ∃ W9, (((((W0.setCell ⟨w.heap.size, 0, none⟩ (.int .i64 c.k)).setCell ⟨w.heap.size, 1, none⟩ (.bool c.b)).setCell ⟨w.heap.size, 2, none⟩ (.int .i64 c.i)).setCell ⟨w.heap.size, 3, none⟩ (.string c.s)).setCell ⟨w.heap.size, 4, none⟩ (.slice an ln cn)).setCell ⟨w.heap.size, 5, none⟩ (.slice al ll cl) = W9 := ⟨_, rfl⟩
 obtain ⟨q1, q2, q3, q4⟩ := set6 _ _ _ _ _ _ HX.out hW9
 have q2' : ∀ b, b ≠ w.heap.size -> W9.drew.heap[b]? = W0.heap[b]? := q2
 have HQ1 : Hid (W9.drew.heap[w.heap.size]? = _) := q1
 have HI9 : Hid (Base.In false (fun b => b < K) W9.drew m (vl c.k c.b c.i c.s (.slice an ln cn) (.slice al ll cl)) c) := Base.In.keep (w := W0) (fun b hb hb2 => q2' b (Nat.ne_of_lt (Nat.lt_of_lt_of_le hb hKw))) HIN.out
 have HB9 : Hid (Below w.heap.size w W9.drew) := (q4 _ _ (Nat.le_refl _) HB0.out).drew
 clear q1 q2 q2' q3 q4
 go_wp2_with fail
 try rw [hW9]
 refine bodyPost_ret (results_cell_row rfl _ W9.drew w.heap.size 46 _ (0, 0) _ rfl HQ1.out underlying46 rfl (by kernel_rfl)) rfl ?_
 exact ⟨_, rfl, HI9.out, HB9.out⟩
theorem list_snoc {α : Type} (us : List α) (n : Nat) (h : us.length = n + 1) : ∃ us' u, us = us' ++ [u] /\ us'.length = n := by
 refine ⟨us.take n, us[n], ?_, by simp; omega⟩
 rw [<- List.take_succ_eq_append_getElem, List.take_of_length_le (by omega)]
theorem mc_front {K m : Nat} {w : World} {M g n cap : Nat} {tv sv : Value} {q : List C} {c : C} (h : Mc K m w M tv sv (.slice (some ⟨g, 0, none⟩) n cap) (q ++ [c])) : Mc K m (w.setCell ⟨M, 2, none⟩ (.slice (some ⟨g, 0, none⟩) q.length cap)) M tv sv (.slice (some ⟨g, 0, none⟩) q.length cap) q := by
 obtain ⟨us, h1, h2, h3⟩ := h.own
 have hg := h.own_ne (g := g) rfl
 have hlow := h.low
 obtain ⟨us', u, rfl, hl⟩ := list_snoc us q.length (by rw [h2]; simp)
 have hf := own_front h1
 rw [hl] at hf
 have hk : ∀ b, b ≠ M -> (w.setCell ⟨M, 2, none⟩ (.slice (some ⟨g, 0, none⟩) q.length cap)).heap[b]? = w.heap[b]? := fun b hb => Below.heap_setCell _ _ _ _ hb
 refine ⟨?_, h.low, us', ⟨Fresh.own_keep hf.1 fun b hb => hk b (by cases hb; show g ≠ M; omega), hf.2⟩, hl, fun j a b => ?_⟩
 ·have := block_set (j := 2) h.box (.slice (some ⟨g, 0, none⟩) q.length cap)
  exact this
 ·have := h3 j (by simp; omega) (by simp; omega)
  rw [List.getElem_append_left a, List.getElem_append_left b] at this
  exact this.keep fun b hb hb2 => hk b (by have : b < K := hb; omega)
theorem take_c {K m : Nat} {w : World} {M : Nat} {tv sv pv : Value} {q : List C} {c : C} (h : Mc K m w M tv sv pv (q ++ [c])) (hq : q.length <= 65536) :
  Calls prog 81 #[ptr M] w fun e w' => ∃ u pv', e = .returned u /\ Base.In false (fun b => b < K) w' m u c /\ Mc K m w' M tv sv pv' q /\ Km M pv w w' /\ pv'.ownBlock = pv.ownBlock := by
 obtain ⟨W0, hW0⟩ : ∃ W0, w.alloc (.cells #[.int .i64 0, .bool false, .int .i64 0, .string ⟨#[]⟩, .slice none 0 0, .slice none 0 0] 46) = W0 := ⟨_, rfl⟩
 have b0 : Below w.heap.size w W0 := by rw [<- hW0]; exact (Below.refl _ w).alloc (Nat.le_refl _) _
 have s0 : W0.heap.size = w.heap.size + 1 := by rw [<- hW0]; simp
 have x0 : W0.heap[w.heap.size]? = some (.cells #[.int .i64 0, .bool false, .int .i64 0, .string ⟨#[]⟩, .slice none 0 0, .slice none 0 0] 46 (0, 0)) := by rw [<- hW0]; exact heap_alloc_new w _
 have cT := top_c (h.below b0) hq
 have HH : Hid _ := h
 have HB0 : Hid _ := b0
 have HX0 : Hid _ := x0
 clear h b0 x0
 go_enter func81, ntmps81
 go_wp2_with fail
 try rw [hW0]
 refine cT.mono ?_
 rintro e W1 ⟨u, rfl, hin1, b1⟩
 obtain ⟨an, ln, cn, al, ll, cl, rfl⟩ := in_shape hin1
 have hs1 := b1.size
 obtain ⟨W2, hW2⟩ : ∃ W2, W1.alloc (.cells #[.int .i64 c.k, .bool c.b, .int .i64 c.i, .string c.s, .slice an ln cn, .slice al ll cl] 46) = W2 := ⟨_, rfl⟩
 have b2 : Below W1.heap.size W1 W2 := by rw [<- hW2]; exact (Below.refl _ W1).alloc (Nat.le_refl _) _
 have x2 : W2.heap[W1.heap.size]? = some (.cells #[.int .i64 c.k, .bool c.b, .int .i64 c.i, .string c.s, .slice an ln cn, .slice al ll cl] 46 (0, 0)) := by rw [<- hW2]; exact heap_alloc_new W1 _
 have HB2 : Hid (Below w.heap.size w W2) := (HB0.out.trans (b1.mono (by omega))).trans (b2.mono (by omega))
 have HI2 : Hid _ := hin1.below b2
 have hm2 := HH.out.below HB2.out
 obtain ⟨g, cap, u, rfl, hc1, hc2, h6, -⟩ := hm2.last
 have kM : W2.cell? ⟨M, 2, none⟩ = some (.slice (some ⟨g, 0, none⟩) (q.length + 1) cap) := by simp [World.cell?, hm2.box]
 have fM := frozen_box hm2.box 2
 have HM2 : Hid _ := hm2
 have HX1 : Hid (W2.heap[w.heap.size]? = some (.cells #[.int .i64 0, .bool false, .int .i64 0, .string ⟨#[]⟩, .slice none 0 0, .slice none 0 0] 46 (0, 0))) := (b2.block _ (by omega)).trans ((b1.block _ (by omega)).trans HX0.out)
 have HX2 : Hid _ := x2
 obtain ⟨z0, z1, z2, z3, z4, z5⟩ := six_box x2
 have HLT : Hid (M < w.heap.size /\ K <= M) := ⟨HH.out.lt, HH.out.low⟩
 obtain ⟨n, hn⟩ : ∃ n, q.length = n := ⟨_, rfl⟩
 rw [hn] at hc1 kM
 have HN : Hid (q.length = n) := hn
 have hi2 : (0 : Int) <= (n : Int) := by omega
 have hi3 : IntKind.i64.wrap (n : Int) = (n : Int) := by rw [IntKind.wrap_i64]; omega
 have hi4 : (n : Int) <= (cap : Int) := by omega
 clear cT b1 b2 x2 hin1 hm2 h6 hn
 go_wp2_with fail
 try rw [hW2]
 refine wp_region_held_drew (S := fun _ => True) (by kernel_rfl) (by trivial) (fun hHeld => ?_)
 refine tkH 0 rfl ?_; try simp only [ptH]
 refine tkH 1 rfl ?_; try simp only [ptH]
 refine tkH 2 rfl ?_; try simp only [ptH]
 refine tkH 3 rfl ?_; try simp only [ptH]
 refine tkH 5 rfl ?_; try simp only [ptH]
 refine tkH 6 rfl ?_; try simp only [ptH]
 refine tkH 7 rfl ?_; try simp only [ptH]
 refine rdH [4, 8] ?_
 refine AllReadyH.cons rfl (fun K0 hK => ?_) (AllReadyH.cons rfl (fun K0 hK => ?_) (AllReadyH.nil))
 ·go_simp
  refine hK.out _ _ (by trivial) (fun hHeld => ?_)
  clear hK K0
  try simp only [ptH]
  refine rdH [8] ?_
  refine alH rfl fun K0 hK => ?_
  go_simp
  refine hK.out _ _ (by trivial) (fun hHeld => ?_)
  clear hK K0
  try simp only [ptH]
  refine tkH 9 rfl ?_; try simp only [ptH]
  refine tkH 10 rfl ?_; try simp only [ptH]
  refine tkH 11 rfl ?_; try simp only [ptH]
  refine tkH 12 rfl ?_; try simp only [ptH]
  refine tkH 13 rfl ?_; try simp only [ptH]
  refine rdH [14] ?_
  refine alH rfl fun K0 hK => ?_
  go_simp
  refine hK.out _ _ (by trivial) (fun hHeld => ?_)
  clear hK K0
  try simp only [ptH]
  refine dnH ?_
  obtain ⟨W3, hW3⟩ : ∃ W3, W2.setCell ⟨M, 2, none⟩ (.slice (some ⟨g, 0, none⟩) n cap) = W3 := ⟨_, rfl⟩
  have m3 : Mc K m W3 M tv sv (.slice (some ⟨g, 0, none⟩) n cap) q := by
   rw [<- hW3]
   have := mc_front HM2.out
   rw [HN.out] at this
   exact this
  have k3 : ∀ b, b ≠ M -> W3.heap[b]? = W2.heap[b]? := fun b hb => by rw [<- hW3]; exact Below.heap_setCell _ _ _ _ hb
  have s3 : W3.heap.size = W2.heap.size := by rw [<- hW3]; simp
  have x3 := (k3 W1.heap.size (by have := HLT.out; omega)).trans HX2.out
  have y3 := (k3 w.heap.size (by have := HLT.out; omega)).trans HX1.out
  have b3 : Below M w W3 := by rw [<- hW3]; exact (HB2.out.mono (Nat.le_of_lt HLT.out.1)).setCell (p := ⟨M, 2, none⟩) (Nat.le_refl _) _
  obtain ⟨W9, hW9⟩ : ∃ W9, (((((W3.setCell ⟨w.heap.size, 0, none⟩ (.int .i64 c.k)).setCell ⟨w.heap.size, 1, none⟩ (.bool c.b)).setCell ⟨w.heap.size, 2, none⟩ (.int .i64 c.i)).setCell ⟨w.heap.size, 3, none⟩ (.string c.s)).setCell ⟨w.heap.size, 4, none⟩ (.slice an ln cn)).setCell ⟨w.heap.size, 5, none⟩ (.slice al ll cl) = W9 := ⟨_, rfl⟩
  obtain ⟨q1, q2, q3, q4⟩ := set6 _ _ _ _ _ _ y3 hW9
  have HE : Hid (∃ u pv', (Ending.returned (vl c.k c.b c.i c.s (.slice an ln cn) (.slice al ll cl)) = .returned u) /\ Base.In false (fun b => b < K) W9.drew m u c /\ Mc K m W9.drew M tv sv pv' q /\ Km M (.slice (some ⟨g, 0, none⟩) (q.length + 1) cap) w W9.drew /\ pv'.ownBlock = (Value.slice (some ⟨g, 0, none⟩) (q.length + 1) cap).ownBlock) := by
   have hlt := HLT.out
   have hg := HH.out.own_ne (g := g) rfl
   refine ⟨_, _, rfl, HI2.out.keep fun b hb hb2 => ?_, m3.keep fun b hb hb2 => ?_, ⟨(q4 _ _ (by omega) b3).drew, fun b hb h1 h2 => ?_⟩, rfl⟩
   ·show W9.heap[b]? = _
    rw [q2 b (by have : b < K := hb; omega), k3 b (by have : b < K := hb; omega)]
   ·refine q2 b ?_
    rcases hb2 with hb2 | hb2 | hb2
    ·omega
    ·omega
    ·cases hb2; show g ≠ w.heap.size; omega
   ·show W9.heap[b]? = _
    rw [q2 b (by omega), k3 b h1, HB2.out.block b hb]
  have HQ1 : Hid (W9.drew.heap[w.heap.size]? = _) := q1
  obtain ⟨u0, u1, u2, u3, u4, u5⟩ := six_box x3
  obtain ⟨v0', v1', v2', v3', v4', v5'⟩ := six_box y3
  have g0 := frozen_box y3 0
  have g1 := frozen_box y3 1
  have g2 := frozen_box y3 2
  have g3 := frozen_box y3 3
  have g4 := frozen_box y3 4
  have g5 := frozen_box y3 5
  clear m3 k3 x3 y3 b3 q1 q2 q3 q4
  try rw [hW3]
  go_wp2_with fail
  try rw [hW9]
  refine bodyPost_ret (results_cell_row rfl _ W9.drew w.heap.size 46 _ (0, 0) _ rfl HQ1.out underlying46 rfl (by kernel_rfl)) rfl ?_
  exact HE.out
 ·go_simp
  refine hK.out _ _ (by trivial) (fun hHeld => ?_)
  clear hK K0
  try simp only [ptH]
  refine tkH 9 rfl ?_; try simp only [ptH]
  refine tkH 10 rfl ?_; try simp only [ptH]
  refine rdH [4] ?_
  refine alH rfl fun K0 hK => ?_
  go_simp
  refine hK.out _ _ (by trivial) (fun hHeld => ?_)
  clear hK K0
  try simp only [ptH]
  refine tkH 11 rfl ?_; try simp only [ptH]
  refine tkH 12 rfl ?_; try simp only [ptH]
  refine tkH 13 rfl ?_; try simp only [ptH]
  refine rdH [14] ?_
  refine alH rfl fun K0 hK => ?_
  go_simp
  refine hK.out _ _ (by trivial) (fun hHeld => ?_)
  clear hK K0
  try simp only [ptH]
  refine dnH ?_
  obtain ⟨W3, hW3⟩ : ∃ W3, W2.setCell ⟨M, 2, none⟩ (.slice (some ⟨g, 0, none⟩) n cap) = W3 := ⟨_, rfl⟩
  have m3 : Mc K m W3 M tv sv (.slice (some ⟨g, 0, none⟩) n cap) q := by
   rw [<- hW3]
   have := mc_front HM2.out
   rw [HN.out] at this
   exact this
  have k3 : ∀ b, b ≠ M -> W3.heap[b]? = W2.heap[b]? := fun b hb => by rw [<- hW3]; exact Below.heap_setCell _ _ _ _ hb
  have s3 : W3.heap.size = W2.heap.size := by rw [<- hW3]; simp
  have x3 := (k3 W1.heap.size (by have := HLT.out; omega)).trans HX2.out
  have y3 := (k3 w.heap.size (by have := HLT.out; omega)).trans HX1.out
  have b3 : Below M w W3 := by rw [<- hW3]; exact (HB2.out.mono (Nat.le_of_lt HLT.out.1)).setCell (p := ⟨M, 2, none⟩) (Nat.le_refl _) _
  obtain ⟨W9, hW9⟩ : ∃ W9, (((((W3.setCell ⟨w.heap.size, 0, none⟩ (.int .i64 c.k)).setCell ⟨w.heap.size, 1, none⟩ (.bool c.b)).setCell ⟨w.heap.size, 2, none⟩ (.int .i64 c.i)).setCell ⟨w.heap.size, 3, none⟩ (.string c.s)).setCell ⟨w.heap.size, 4, none⟩ (.slice an ln cn)).setCell ⟨w.heap.size, 5, none⟩ (.slice al ll cl) = W9 := ⟨_, rfl⟩
  obtain ⟨q1, q2, q3, q4⟩ := set6 _ _ _ _ _ _ y3 hW9
  have HE : Hid (∃ u pv', (Ending.returned (vl c.k c.b c.i c.s (.slice an ln cn) (.slice al ll cl)) = .returned u) /\ Base.In false (fun b => b < K) W9.drew m u c /\ Mc K m W9.drew M tv sv pv' q /\ Km M (.slice (some ⟨g, 0, none⟩) (q.length + 1) cap) w W9.drew /\ pv'.ownBlock = (Value.slice (some ⟨g, 0, none⟩) (q.length + 1) cap).ownBlock) := by
   have hlt := HLT.out
   have hg := HH.out.own_ne (g := g) rfl
   refine ⟨_, _, rfl, HI2.out.keep fun b hb hb2 => ?_, m3.keep fun b hb hb2 => ?_, ⟨(q4 _ _ (by omega) b3).drew, fun b hb h1 h2 => ?_⟩, rfl⟩
   ·show W9.heap[b]? = _
    rw [q2 b (by have : b < K := hb; omega), k3 b (by have : b < K := hb; omega)]
   ·refine q2 b ?_
    rcases hb2 with hb2 | hb2 | hb2
    ·omega
    ·omega
    ·cases hb2; show g ≠ w.heap.size; omega
   ·show W9.heap[b]? = _
    rw [q2 b (by omega), k3 b h1, HB2.out.block b hb]
  have HQ1 : Hid (W9.drew.heap[w.heap.size]? = _) := q1
  obtain ⟨u0, u1, u2, u3, u4, u5⟩ := six_box x3
  obtain ⟨v0', v1', v2', v3', v4', v5'⟩ := six_box y3
  have g0 := frozen_box y3 0
  have g1 := frozen_box y3 1
  have g2 := frozen_box y3 2
  have g3 := frozen_box y3 3
  have g4 := frozen_box y3 4
  have g5 := frozen_box y3 5
  clear m3 k3 x3 y3 b3 q1 q2 q3 q4
  try rw [hW3]
  go_wp2_with fail
  try rw [hW9]
  refine bodyPost_ret (results_cell_row rfl _ W9.drew w.heap.size 46 _ (0, 0) _ rfl HQ1.out underlying46 rfl (by kernel_rfl)) rfl ?_
  exact HE.out
end Go.Proofs.YthjbknncbhkinaaGreatDoor.MBx

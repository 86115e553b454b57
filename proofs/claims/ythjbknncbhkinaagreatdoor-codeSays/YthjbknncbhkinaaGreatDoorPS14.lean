import Derived.Deep.RegionHeld3
import Derived.Test.YthjbknncbhkinaaGreatDoorPS12
import Derived.Test.YthjbknncbhkinaaGreatDoorPS13
open Go.Proofs.Tryz
set_option linter.unusedVariables false
set_option maxRecDepth 20000
set_option maxHeartbeats 3200000
namespace Go.Proofs.YthjbknncbhkinaaGreatDoor.VIn
open Tak
open Go.RowKit Base VSm
theorem bel_d {w W0 W1 : World} (h : Below w.heap.size w W0) (k : Below W0.drew.heap.size W0.drew W1) : Below w.heap.size w W1 :=
 (⟨h.os, h.tape, h.output, h.size, h.block⟩ : Below w.heap.size w W0.drew).trans (k.mono h.size)
theorem integers_c (k1 : Int) (b1 : Bool) (i1 : Int) (s1 : ByteArray) (n1 l1 : Value) (k2 : Int) (b2 : Bool) (i2 : Int) (s2 : ByteArray) (n2 l2 : Value) (w : World) : Calls prog 107 #[vl k1 b1 i1 s1 n1 l1, vl k2 b2 i2 s2 n2 l2] w fun e w' => An w w' e (fun p : Int × Int => .tuple #[.int .i64 p.1, .int .i64 p.2]) (if k1 = 3 then (if k2 = 3 then .ok (i1, i2) else .error 1101) else .error 1101) := by
 obtain ⟨W0, hW0, hs0, hb0, hp, hq⟩ := two2 w #[.int .i64 k1, .bool b1, .int .i64 i1, .string s1, n1, l1] #[.int .i64 k2, .bool b2, .int .i64 i2, .string s2, n2, l2]
 have HP : Hid (W0.heap[w.heap.size]? = some (.cells #[.int .i64 k1, .bool b1, .int .i64 i1, .string s1, n1, l1] 46 (0, 0))) := hp
 have HQ : Hid (W0.heap[w.heap.size + 1]? = some (.cells #[.int .i64 k2, .bool b2, .int .i64 i2, .string s2, n2, l2] 46 (0, 0))) := hq
 have HB : Hid (Below w.heap.size w W0) := hb0
 have hsD : W0.drew.heap.size = w.heap.size + 2 := by simp [hs0]
 obtain ⟨p0, p1, p2, p3, p4, p5⟩ := six_box hp
 obtain ⟨q0, q1, q2, q3, q4, q5⟩ := six_box hq
 clear hp hq hb0
 have c1 := fun W => integer_c k1 b1 i1 s1 n1 l1 W
 have c2 := fun W => integer_c k2 b2 i2 s2 n2 l2 W
 by_cases h1 : k1 = 3
 ·rw [if_pos h1] at c1
  rw [if_pos h1]
  clear h1
  by_cases h2 : k2 = 3
  ·rw [if_pos h2] at c2
   rw [if_pos h2]
   clear h2
   go_enter func107, ntmps107
   go_wp2_with fail
   try rw [hW0]
   refine wp_region_held_drew (S := fun w' => (w'.cell? ⟨w.heap.size, 0, none⟩ = some (.int .i64 k1) /\ w'.cell? ⟨w.heap.size, 1, none⟩ = some (.bool b1) /\ w'.cell? ⟨w.heap.size, 2, none⟩ = some (.int .i64 i1) /\ w'.cell? ⟨w.heap.size, 3, none⟩ = some (.string s1) /\ w'.cell? ⟨w.heap.size, 4, none⟩ = some (n1) /\ w'.cell? ⟨w.heap.size, 5, none⟩ = some (l1)) /\ (w'.cell? ⟨w.heap.size + 1, 0, none⟩ = some (.int .i64 k2) /\ w'.cell? ⟨w.heap.size + 1, 1, none⟩ = some (.bool b2) /\ w'.cell? ⟨w.heap.size + 1, 2, none⟩ = some (.int .i64 i2) /\ w'.cell? ⟨w.heap.size + 1, 3, none⟩ = some (.string s2) /\ w'.cell? ⟨w.heap.size + 1, 4, none⟩ = some (n2) /\ w'.cell? ⟨w.heap.size + 1, 5, none⟩ = some (l2))) (by kernel_rfl) (by first | assumption | go_keep) (fun hHeld => ?_)
   refine tkH 0 rfl ?_; try simp only [ptH]
   refine tkH 2 rfl ?_; try simp only [ptH]
   refine rdH [1] ?_
   refine alH rfl fun K hK => ?_
   go_simp
   refine (c1 _).mono ?_
   rintro e W1 ⟨rfl, hb1⟩
   have hp1 := (hb1.block w.heap.size (by rw [hsD]; omega)).trans HP.out
   have hq1 := (hb1.block (w.heap.size + 1) (by rw [hsD]; omega)).trans HQ.out
   obtain ⟨x0, x1, x2, x3, x4, x5⟩ := six_box hp1
   obtain ⟨y0, y1, y2, y3, y4, y5⟩ := six_box hq1
   have HB1 : Hid (Below w.heap.size w W1) := bel_d HB.out hb1
   have HP1 : Hid _ := hp1
   have HQ1 : Hid _ := hq1
   have hs1 := hb1.size
   rw [hsD] at hs1
   clear hp1 hq1 hb1
   go_wp2_with fail
   refine hK.out _ _ (by first | assumption | go_keep) (fun hHeld => ?_)
   clear hK K
   try simp only [ptH]
   refine rdH [3] ?_
   refine alH rfl fun K hK => ?_
   go_simp
   refine (c2 _).mono ?_
   rintro e W2 ⟨rfl, hb2⟩
   obtain ⟨z0, z1, z2, z3, z4, z5⟩ := six_box ((hb2.block w.heap.size (by omega)).trans HP1.out)
   obtain ⟨t0, t1, t2, t3, t4, t5⟩ := six_box ((hb2.block (w.heap.size + 1) (by omega)).trans HQ1.out)
   have HB2 : Hid (Below w.heap.size w W2) := HB1.out.trans (hb2.mono HB1.out.size)
   clear hb2
   go_wp2_with fail
   refine hK.out _ _ (by first | assumption | go_keep) (fun hHeld => ?_)
   clear hK K
   try simp only [ptH]
   refine tkH 4 rfl ?_; try simp only [ptH]
   refine tkH 5 rfl ?_; try simp only [ptH]
   refine dnH ?_
   go_wp2_with fail
   go_ret2
   exact ⟨rfl, HB2.out⟩
  ·rw [if_neg h2] at c2
   rw [if_neg h2]
   clear h2
   go_enter func107, ntmps107
   go_wp2_with fail
   try rw [hW0]
   refine wp_region_held_drew (S := fun w' => (w'.cell? ⟨w.heap.size, 0, none⟩ = some (.int .i64 k1) /\ w'.cell? ⟨w.heap.size, 1, none⟩ = some (.bool b1) /\ w'.cell? ⟨w.heap.size, 2, none⟩ = some (.int .i64 i1) /\ w'.cell? ⟨w.heap.size, 3, none⟩ = some (.string s1) /\ w'.cell? ⟨w.heap.size, 4, none⟩ = some (n1) /\ w'.cell? ⟨w.heap.size, 5, none⟩ = some (l1)) /\ (w'.cell? ⟨w.heap.size + 1, 0, none⟩ = some (.int .i64 k2) /\ w'.cell? ⟨w.heap.size + 1, 1, none⟩ = some (.bool b2) /\ w'.cell? ⟨w.heap.size + 1, 2, none⟩ = some (.int .i64 i2) /\ w'.cell? ⟨w.heap.size + 1, 3, none⟩ = some (.string s2) /\ w'.cell? ⟨w.heap.size + 1, 4, none⟩ = some (n2) /\ w'.cell? ⟨w.heap.size + 1, 5, none⟩ = some (l2))) (by kernel_rfl) (by first | assumption | go_keep) (fun hHeld => ?_)
   refine tkH 0 rfl ?_; try simp only [ptH]
   refine tkH 2 rfl ?_; try simp only [ptH]
   refine rdH [1] ?_
   refine alH rfl fun K hK => ?_
   go_simp
   refine (c1 _).mono ?_
   rintro e W1 ⟨rfl, hb1⟩
   have hp1 := (hb1.block w.heap.size (by rw [hsD]; omega)).trans HP.out
   have hq1 := (hb1.block (w.heap.size + 1) (by rw [hsD]; omega)).trans HQ.out
   obtain ⟨x0, x1, x2, x3, x4, x5⟩ := six_box hp1
   obtain ⟨y0, y1, y2, y3, y4, y5⟩ := six_box hq1
   have HB1 : Hid (Below w.heap.size w W1) := bel_d HB.out hb1
   have HP1 : Hid _ := hp1
   have HQ1 : Hid _ := hq1
   have hs1 := hb1.size
   rw [hsD] at hs1
   clear hp1 hq1 hb1
   go_wp2_with fail
   refine hK.out _ _ (by first | assumption | go_keep) (fun hHeld => ?_)
   clear hK K
   try simp only [ptH]
   refine rdH [3] ?_
   refine alH rfl fun K hK => ?_
   go_simp
   refine (c2 _).mono ?_
   rintro e W2 ⟨rfl, hb2⟩
   exact ⟨rfl, rfl, HB1.out.trans (hb2.mono HB1.out.size)⟩
 ·rw [if_neg h1] at c1
  rw [if_neg h1]
  clear h1
  go_enter func107, ntmps107
  go_wp2_with fail
  try rw [hW0]
  refine wp_region_held_drew (S := fun w' => (w'.cell? ⟨w.heap.size, 0, none⟩ = some (.int .i64 k1) /\ w'.cell? ⟨w.heap.size, 1, none⟩ = some (.bool b1) /\ w'.cell? ⟨w.heap.size, 2, none⟩ = some (.int .i64 i1) /\ w'.cell? ⟨w.heap.size, 3, none⟩ = some (.string s1) /\ w'.cell? ⟨w.heap.size, 4, none⟩ = some (n1) /\ w'.cell? ⟨w.heap.size, 5, none⟩ = some (l1)) /\ (w'.cell? ⟨w.heap.size + 1, 0, none⟩ = some (.int .i64 k2) /\ w'.cell? ⟨w.heap.size + 1, 1, none⟩ = some (.bool b2) /\ w'.cell? ⟨w.heap.size + 1, 2, none⟩ = some (.int .i64 i2) /\ w'.cell? ⟨w.heap.size + 1, 3, none⟩ = some (.string s2) /\ w'.cell? ⟨w.heap.size + 1, 4, none⟩ = some (n2) /\ w'.cell? ⟨w.heap.size + 1, 5, none⟩ = some (l2))) (by kernel_rfl) (by first | assumption | go_keep) (fun hHeld => ?_)
  refine tkH 0 rfl ?_; try simp only [ptH]
  refine tkH 2 rfl ?_; try simp only [ptH]
  refine rdH [1] ?_
  refine alH rfl fun K hK => ?_
  go_simp
  refine (c1 _).mono ?_
  rintro e W1 ⟨rfl, hb1⟩
  exact ⟨rfl, rfl, bel_d HB.out hb1⟩
end Go.Proofs.YthjbknncbhkinaaGreatDoor.VIn
namespace Go.Proofs.YthjbknncbhkinaaGreatDoor.VOr
open Tak
open Go.RowKit Base VPure VSm VIn
theorem order_c (k1 : Int) (b1 : Bool) (i1 : Int) (s1 : ByteArray) (n1 l1 : Value) (k2 : Int) (b2 : Bool) (i2 : Int) (s2 : ByteArray) (n2 l2 : Value) (w : World) : Calls prog 116 #[vl k1 b1 i1 s1 n1 l1, vl k2 b2 i2 s2 n2 l2] w fun e w' => An w w' e (fun p : Int => .int .i64 p) (ord k1 i1 s1 k2 i2 s2) := by
 obtain ⟨W0, hW0, hs0, hb0, hp, hq⟩ := two2 w #[.int .i64 k1, .bool b1, .int .i64 i1, .string s1, n1, l1] #[.int .i64 k2, .bool b2, .int .i64 i2, .string s2, n2, l2]
 have HP : Hid (W0.heap[w.heap.size]? = some (.cells #[.int .i64 k1, .bool b1, .int .i64 i1, .string s1, n1, l1] 46 (0, 0))) := hp
 have HQ : Hid (W0.heap[w.heap.size + 1]? = some (.cells #[.int .i64 k2, .bool b2, .int .i64 i2, .string s2, n2, l2] 46 (0, 0))) := hq
 have HB : Hid (Below w.heap.size w W0) := hb0
 have hsD : W0.drew.heap.size = w.heap.size + 2 := by simp [hs0]
 obtain ⟨p0, p1, p2, p3, p4, p5⟩ := six_box hp
 obtain ⟨q0, q1, q2, q3, q4, q5⟩ := six_box hq
 clear hp hq hb0
 have c1 := fun W => integer_c k1 b1 i1 s1 n1 l1 W
 have c2 := fun W => integer_c k2 b2 i2 s2 n2 l2 W
 have cC := fun W => Tryz.cmp_Compare_int i1 i2 W
 have cS := fun W => Tryz.strings_Compare s1 s2 W
 obtain ⟨X, hX⟩ : ∃ X, Lib.compareInt i1 i2 = X := ⟨_, rfl⟩
 obtain ⟨Y, hY⟩ : ∃ Y, Lib.compareBytes s1.data.toList s2.data.toList = Y := ⟨_, rfl⟩
 unfold ord
 rw [hX] at cC ⊢
 rw [hY] at cS ⊢
 clear hX hY
 by_cases h4 : k1 = 4 /\ k2 = 4
 ·rw [if_pos h4]
  obtain ⟨rfl, rfl⟩ := h4
  clear c1 c2 cC
  go_enter func116, ntmps116
  go_wp2_with fail
  try rw [hW0]
  refine (cS _).mono ?_
  rintro e W1 ⟨rfl, rfl⟩
  go_wp2_with fail
  go_ret
  exact ⟨rfl, HB.out⟩
 ·rw [if_neg h4]
  have g4 : (k1 == 4 && k2 == 4) = false := by simp; omega
  clear cS
  by_cases h1 : k1 = 3
  ·rw [if_pos h1] at c1
   rw [if_pos h1]
   have g1 : (k1 == 4) = false := by simp; omega
   by_cases h2 : k2 = 3
   ·rw [if_pos h2] at c2
    rw [if_pos h2]
    clear h1 h2 h4 g4
    go_enter func116, ntmps116
    go_wp2_with fail
    try rw [hW0]
    refine wp_region_held_drew (S := fun w' => (w'.cell? ⟨w.heap.size, 0, none⟩ = some (.int .i64 k1) /\ w'.cell? ⟨w.heap.size, 1, none⟩ = some (.bool b1) /\ w'.cell? ⟨w.heap.size, 2, none⟩ = some (.int .i64 i1) /\ w'.cell? ⟨w.heap.size, 3, none⟩ = some (.string s1) /\ w'.cell? ⟨w.heap.size, 4, none⟩ = some (n1) /\ w'.cell? ⟨w.heap.size, 5, none⟩ = some (l1)) /\ (w'.cell? ⟨w.heap.size + 1, 0, none⟩ = some (.int .i64 k2) /\ w'.cell? ⟨w.heap.size + 1, 1, none⟩ = some (.bool b2) /\ w'.cell? ⟨w.heap.size + 1, 2, none⟩ = some (.int .i64 i2) /\ w'.cell? ⟨w.heap.size + 1, 3, none⟩ = some (.string s2) /\ w'.cell? ⟨w.heap.size + 1, 4, none⟩ = some (n2) /\ w'.cell? ⟨w.heap.size + 1, 5, none⟩ = some (l2))) (by kernel_rfl) (by first | assumption | go_keep) (fun hHeld => ?_)
    refine tkH 0 rfl ?_; try simp only [ptH]
    refine tkH 2 rfl ?_; try simp only [ptH]
    refine rdH [1] ?_
    refine alH rfl fun K hK => ?_
    go_simp
    refine (c1 _).mono ?_
    rintro e W1 ⟨rfl, hb1⟩
    have hp1 := (hb1.block w.heap.size (by rw [hsD]; omega)).trans HP.out
    have hq1 := (hb1.block (w.heap.size + 1) (by rw [hsD]; omega)).trans HQ.out
    obtain ⟨x0, x1, x2, x3, x4, x5⟩ := six_box hp1
    obtain ⟨y0, y1, y2, y3, y4, y5⟩ := six_box hq1
    have HB1 : Hid (Below w.heap.size w W1) := bel_d HB.out hb1
    have HP1 : Hid _ := hp1
    have HQ1 : Hid _ := hq1
    have hs1 := hb1.size
    rw [hsD] at hs1
    clear hp1 hq1 hb1
    go_wp2_with fail
    refine hK.out _ _ (by first | assumption | go_keep) (fun hHeld => ?_)
    clear hK K
    try simp only [ptH]
    refine rdH [3] ?_
    refine alH rfl fun K hK => ?_
    go_simp
    refine (c2 _).mono ?_
    rintro e W2 ⟨rfl, hb2⟩
    obtain ⟨z0, z1, z2, z3, z4, z5⟩ := six_box ((hb2.block w.heap.size (by omega)).trans HP1.out)
    obtain ⟨t0, t1, t2, t3, t4, t5⟩ := six_box ((hb2.block (w.heap.size + 1) (by omega)).trans HQ1.out)
    have HB2 : Hid (Below w.heap.size w W2) := HB1.out.trans (hb2.mono HB1.out.size)
    clear hb2
    go_wp2_with fail
    refine hK.out _ _ (by first | assumption | go_keep) (fun hHeld => ?_)
    clear hK K
    try simp only [ptH]
    refine rdH [4] ?_
    refine alH rfl fun K hK => ?_
    go_simp
    refine (cC _).mono ?_
    rintro e W3 ⟨rfl, rfl⟩
    go_wp2_with fail
    refine hK.out _ _ (by first | assumption | go_keep) (fun hHeld => ?_)
    clear hK K
    try simp only [ptH]
    refine tkH 5 rfl ?_; try simp only [ptH]
    refine dnH ?_
    go_wp2_with fail
    go_ret
    exact ⟨rfl, HB2.out⟩
   ·rw [if_neg h2] at c2
    rw [if_neg h2]
    clear h1 h2 h4 g4
    go_enter func116, ntmps116
    go_wp2_with fail
    try rw [hW0]
    refine wp_region_held_drew (S := fun w' => (w'.cell? ⟨w.heap.size, 0, none⟩ = some (.int .i64 k1) /\ w'.cell? ⟨w.heap.size, 1, none⟩ = some (.bool b1) /\ w'.cell? ⟨w.heap.size, 2, none⟩ = some (.int .i64 i1) /\ w'.cell? ⟨w.heap.size, 3, none⟩ = some (.string s1) /\ w'.cell? ⟨w.heap.size, 4, none⟩ = some (n1) /\ w'.cell? ⟨w.heap.size, 5, none⟩ = some (l1)) /\ (w'.cell? ⟨w.heap.size + 1, 0, none⟩ = some (.int .i64 k2) /\ w'.cell? ⟨w.heap.size + 1, 1, none⟩ = some (.bool b2) /\ w'.cell? ⟨w.heap.size + 1, 2, none⟩ = some (.int .i64 i2) /\ w'.cell? ⟨w.heap.size + 1, 3, none⟩ = some (.string s2) /\ w'.cell? ⟨w.heap.size + 1, 4, none⟩ = some (n2) /\ w'.cell? ⟨w.heap.size + 1, 5, none⟩ = some (l2))) (by kernel_rfl) (by first | assumption | go_keep) (fun hHeld => ?_)
    refine tkH 0 rfl ?_; try simp only [ptH]
    refine tkH 2 rfl ?_; try simp only [ptH]
    refine rdH [1] ?_
    refine alH rfl fun K hK => ?_
    go_simp
    refine (c1 _).mono ?_
    rintro e W1 ⟨rfl, hb1⟩
    have hp1 := (hb1.block w.heap.size (by rw [hsD]; omega)).trans HP.out
    have hq1 := (hb1.block (w.heap.size + 1) (by rw [hsD]; omega)).trans HQ.out
    obtain ⟨x0, x1, x2, x3, x4, x5⟩ := six_box hp1
    obtain ⟨y0, y1, y2, y3, y4, y5⟩ := six_box hq1
    have HB1 : Hid (Below w.heap.size w W1) := bel_d HB.out hb1
    have HP1 : Hid _ := hp1
    have HQ1 : Hid _ := hq1
    have hs1 := hb1.size
    rw [hsD] at hs1
    clear hp1 hq1 hb1
    go_wp2_with fail
    refine hK.out _ _ (by first | assumption | go_keep) (fun hHeld => ?_)
    clear hK K
    try simp only [ptH]
    refine rdH [3] ?_
    refine alH rfl fun K hK => ?_
    go_simp
    refine (c2 _).mono ?_
    rintro e W2 ⟨rfl, hb2⟩
    exact ⟨rfl, rfl, HB1.out.trans (hb2.mono HB1.out.size)⟩
  ·rw [if_neg h1] at c1
   rw [if_neg h1]
   by_cases g : k1 = 4
   ·have g1 : (k1 == 4) = true := by simp [g]
    have g2 : (k2 == 4) = false := by simp; omega
    clear h1 h4 g4 g
    go_enter func116, ntmps116
    go_wp2_with fail
    try rw [hW0]
    refine wp_region_held_drew (S := fun w' => (w'.cell? ⟨w.heap.size, 0, none⟩ = some (.int .i64 k1) /\ w'.cell? ⟨w.heap.size, 1, none⟩ = some (.bool b1) /\ w'.cell? ⟨w.heap.size, 2, none⟩ = some (.int .i64 i1) /\ w'.cell? ⟨w.heap.size, 3, none⟩ = some (.string s1) /\ w'.cell? ⟨w.heap.size, 4, none⟩ = some (n1) /\ w'.cell? ⟨w.heap.size, 5, none⟩ = some (l1)) /\ (w'.cell? ⟨w.heap.size + 1, 0, none⟩ = some (.int .i64 k2) /\ w'.cell? ⟨w.heap.size + 1, 1, none⟩ = some (.bool b2) /\ w'.cell? ⟨w.heap.size + 1, 2, none⟩ = some (.int .i64 i2) /\ w'.cell? ⟨w.heap.size + 1, 3, none⟩ = some (.string s2) /\ w'.cell? ⟨w.heap.size + 1, 4, none⟩ = some (n2) /\ w'.cell? ⟨w.heap.size + 1, 5, none⟩ = some (l2))) (by kernel_rfl) (by first | assumption | go_keep) (fun hHeld => ?_)
    refine tkH 0 rfl ?_; try simp only [ptH]
    refine tkH 2 rfl ?_; try simp only [ptH]
    refine rdH [1] ?_
    refine alH rfl fun K hK => ?_
    go_simp
    refine (c1 _).mono ?_
    rintro e W1 ⟨rfl, hb1⟩
    exact ⟨rfl, rfl, bel_d HB.out hb1⟩
   ·have g1 : (k1 == 4) = false := by simp; omega
    clear h1 h4 g4 g
    go_enter func116, ntmps116
    go_wp2_with fail
    try rw [hW0]
    refine wp_region_held_drew (S := fun w' => (w'.cell? ⟨w.heap.size, 0, none⟩ = some (.int .i64 k1) /\ w'.cell? ⟨w.heap.size, 1, none⟩ = some (.bool b1) /\ w'.cell? ⟨w.heap.size, 2, none⟩ = some (.int .i64 i1) /\ w'.cell? ⟨w.heap.size, 3, none⟩ = some (.string s1) /\ w'.cell? ⟨w.heap.size, 4, none⟩ = some (n1) /\ w'.cell? ⟨w.heap.size, 5, none⟩ = some (l1)) /\ (w'.cell? ⟨w.heap.size + 1, 0, none⟩ = some (.int .i64 k2) /\ w'.cell? ⟨w.heap.size + 1, 1, none⟩ = some (.bool b2) /\ w'.cell? ⟨w.heap.size + 1, 2, none⟩ = some (.int .i64 i2) /\ w'.cell? ⟨w.heap.size + 1, 3, none⟩ = some (.string s2) /\ w'.cell? ⟨w.heap.size + 1, 4, none⟩ = some (n2) /\ w'.cell? ⟨w.heap.size + 1, 5, none⟩ = some (l2))) (by kernel_rfl) (by first | assumption | go_keep) (fun hHeld => ?_)
    refine tkH 0 rfl ?_; try simp only [ptH]
    refine tkH 2 rfl ?_; try simp only [ptH]
    refine rdH [1] ?_
    refine alH rfl fun K hK => ?_
    go_simp
    refine (c1 _).mono ?_
    rintro e W1 ⟨rfl, hb1⟩
    exact ⟨rfl, rfl, bel_d HB.out hb1⟩
end Go.Proofs.YthjbknncbhkinaaGreatDoor.VOr

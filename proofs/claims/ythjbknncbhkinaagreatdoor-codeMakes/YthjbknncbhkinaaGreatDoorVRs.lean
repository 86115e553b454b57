/- Expressions reckoned: what an answer is in memory. -/
import Derived.Test.YthjbknncbhkinaaGreatDoorTak
import Derived.Test.YthjbknncbhkinaaGreatDoorVPn
import Derived.Test.YthjbknncbhkinaaGreatDoorTextKey
import Derived.Lib.ItoaLen
import Derived.Test.YthjbknncbhkinaaGreatDoorXBase
namespace Go.Proofs.YthjbknncbhkinaaGreatDoor.VJn
open Go.Proofs.YthjbknncbhkinaaGreatDoor.Tak
open Go.RowKit Go.Proofs.YthjbknncbhkinaaGreatDoor.Base Go.Proofs.YthjbknncbhkinaaGreatDoor.EPure Go.Proofs.YthjbknncbhkinaaGreatDoor.VPure Go.Proofs.YthjbknncbhkinaaGreatDoor.VSm Go.Proofs.YthjbknncbhkinaaGreatDoor.VIn Go.Proofs.YthjbknncbhkinaaGreatDoor.VEx
set_option linter.unusedVariables false

/-- The digits' table stands in every later world. -/
def Tb (w : World) : Prop := ∀ W', Below w.heap.size w W' → Digits.Tab W'
theorem Tb.below {w w' : World} (h : Tb w) (hb : Below w.heap.size w w') : Tb w' := fun W hW => h W (hb.trans (hW.mono hb.size))
theorem txt_le {m : Nat} {v : Value} {c : C} {w : World} (h : Base.In false All w m v c) {x : ByteArray} (hx : txt c = .ok x) : x.size ≤ 140737488351232 := by
  obtain ⟨m', nv, lv, -, -, -, hi, hs, -, -⟩ := h.shape
  unfold txt at hx
  split at hx
  · injection hx with hx
    subst hx
    obtain ⟨k, b, i, s, n, l⟩ := c
    simp only [C.i, C.s] at hi hs
    rw [TextKey.tx]
    have hl := Lib.itoa_length_le i hi.1 hi.2
    have he : (⟨(Lib.itoa i).toArray⟩ : ByteArray).size = (Lib.itoa i).length := by show (Lib.itoa i).toArray.size = _; simp
    repeat' split
    all_goals first | decide | exact hs | (rw [he]; omega)
  · cases hx
set_option maxRecDepth 20000 in
set_option maxHeartbeats 1600000 in
theorem textOf_c {m : Nat} {v : Value} {c : C} {w : World} (h : Base.In false All w m v c) (ht : Tb w) :
    Calls Tryz.prog 133 #[v] w fun e w' => An w w' e Value.string (txt c) := by
  have hin := h
  obtain ⟨m', nv, lv, hm, rfl, -⟩ := h.shape
  obtain ⟨W0, hW0⟩ : ∃ W0, w.alloc (.cells #[.int .i64 c.k, .bool c.b, .int .i64 c.i, .string c.s, nv, lv] 46) = W0 := ⟨_, rfl⟩
  have hb0 : Below w.heap.size w W0 := by rw [← hW0]; exact (Below.refl _ w).alloc (Nat.le_refl _) _
  have hp : W0.heap[w.heap.size]? = some (.cells #[.int .i64 c.k, .bool c.b, .int .i64 c.i, .string c.s, nv, lv] 46 (0, 0)) := by rw [← hW0]; exact heap_alloc_new w _
  obtain ⟨p0, p1, p2, p3, p4, p5⟩ := six_box hp
  have cT := TextKey.text_c (hin.below hb0) (ht W0 hb0)
  have HB : Hid (Below w.heap.size w W0) := hb0
  unfold txt
  generalize TextKey.te c = te at *
  generalize TextKey.tx c = tx at *
  generalize c.k = k at *
  generalize c.b = b at *
  generalize c.i = i at *
  generalize c.s = s at *
  clear h hin hb0 hp ht hm
  by_cases he : te = 0
  · subst he
    rw [if_pos rfl]
    go_enter Tryz.func133, Tryz.ntmps133
    go_wp2_with fail
    try rw [hW0]
    refine cT.mono ?_
    rintro e W1 ⟨rfl, hb1⟩
    have HB1 : Hid (Below w.heap.size w W1) := HB.out.trans (hb1.mono HB.out.size)
    have c1 := must_t W1
    clear hb1 cT HB p0 p1 p2 p3 p4 p5 hW0
    go_wp2_with fail
    refine c1.mono ?_
    rintro e W2 ⟨⟨v2, rfl⟩, rfl⟩
    go_wp2_with fail
    go_ret
    exact ⟨rfl, HB1.out⟩
  · rw [if_neg he]
    have d : (te == 0) = false := by simp [he]
    clear he
    go_enter Tryz.func133, Tryz.ntmps133
    go_wp2_with fail
    try rw [hW0]
    refine cT.mono ?_
    rintro e W1 ⟨rfl, hb1⟩
    have HB1 : Hid (Below w.heap.size w W1) := HB.out.trans (hb1.mono HB.out.size)
    have c1 := must_f W1
    clear hb1 cT HB p0 p1 p2 p3 p4 p5 hW0
    go_wp2_with fail
    refine c1.mono ?_
    rintro e W2 ⟨rfl, rfl⟩
    exact ⟨rfl, rfl, HB1.out⟩
set_option maxRecDepth 20000 in
set_option maxHeartbeats 3200000 in
theorem join_c {m1 m2 : Nat} {c1 c2 : C} (k1 : Int) (b1 : Bool) (i1 : Int) (s1 : ByteArray) (n1 l1 : Value) (k2 : Int) (b2 : Bool) (i2 : Int) (s2 : ByteArray) (n2 l2 : Value) {w : World} (hi1 : Base.In false All w m1 (vl k1 b1 i1 s1 n1 l1) c1) (hi2 : Base.In false All w m2 (vl k2 b2 i2 s2 n2 l2) c2) (ht : Tb w) : Calls Tryz.prog 115 #[vl k1 b1 i1 s1 n1 l1, vl k2 b2 i2 s2 n2 l2] w fun e w' => An w w' e (fun s : ByteArray => v0 4 false 0 s) (bnd (txt c1) fun x => bnd (txt c2) fun y => if 4096 < x.size + y.size then .error 1107 else .ok (x ++ y)) := by
  obtain ⟨W0, hW0, hs0, hb0, hp, hq, hr⟩ := two3 w #[.int .i64 k1, .bool b1, .int .i64 i1, .string s1, n1, l1] #[.int .i64 k2, .bool b2, .int .i64 i2, .string s2, n2, l2]
  have HP : Hid (W0.heap[w.heap.size]? = some (.cells #[.int .i64 k1, .bool b1, .int .i64 i1, .string s1, n1, l1] 46 (0, 0))) := hp
  have HQ : Hid (W0.heap[w.heap.size + 1]? = some (.cells #[.int .i64 k2, .bool b2, .int .i64 i2, .string s2, n2, l2] 46 (0, 0))) := hq
  have HB : Hid (Below w.heap.size w W0) := hb0
  have hsD : W0.drew.heap.size = w.heap.size + 3 := by simp [hs0]
  obtain ⟨p0, p1, p2, p3, p4, p5⟩ := six_box hp
  obtain ⟨q0, q1, q2, q3, q4, q5⟩ := six_box hq
  have HR : Hid (W0.heap[w.heap.size + 2]? = some (.cells #[.int .i64 0, .bool false, .int .i64 0, .string ⟨#[]⟩, .slice none 0 0, .slice none 0 0] 46 (0, 0))) := hr
  have z1 : ∀ W, Below W0.drew.heap.size W0.drew W → Below w.heap.size w W := fun W h => bel_d hb0 h
  have cA : ∀ W, Below w.heap.size w W → Calls Tryz.prog 133 #[vl k1 b1 i1 s1 n1 l1] W fun e w' => An W w' e Value.string (txt c1) := fun W h => textOf_c (hi1.below h) (ht.below h)
  have cB : ∀ W, Below w.heap.size w W → Calls Tryz.prog 133 #[vl k2 b2 i2 s2 n2 l2] W fun e w' => An W w' e Value.string (txt c2) := fun W h => textOf_c (hi2.below h) (ht.below h)
  have cA := cA _ (z1 _ (Below.refl _ _))
  have HcB : Hid _ := cB
  have hz1 := fun x => @txt_le _ _ _ _ hi1 x
  have hz2 := fun x => @txt_le _ _ _ _ hi2 x
  clear hp hq hb0 hr hi1 hi2 ht z1 cB
  generalize txt c1 = T1 at *
  generalize txt c2 = T2 at *
  cases T1 with
  | error c =>
    go_enter Tryz.func115, Tryz.ntmps115
    go_wp2_with fail
    try rw [hW0]
    refine wp_region_held_drew (S := fun w' => (w'.cell? ⟨w.heap.size, 0, none⟩ = some (.int .i64 k1) ∧ w'.cell? ⟨w.heap.size, 1, none⟩ = some (.bool b1) ∧ w'.cell? ⟨w.heap.size, 2, none⟩ = some (.int .i64 i1) ∧ w'.cell? ⟨w.heap.size, 3, none⟩ = some (.string s1) ∧ w'.cell? ⟨w.heap.size, 4, none⟩ = some (n1) ∧ w'.cell? ⟨w.heap.size, 5, none⟩ = some (l1)) ∧ (w'.cell? ⟨w.heap.size + 1, 0, none⟩ = some (.int .i64 k2) ∧ w'.cell? ⟨w.heap.size + 1, 1, none⟩ = some (.bool b2) ∧ w'.cell? ⟨w.heap.size + 1, 2, none⟩ = some (.int .i64 i2) ∧ w'.cell? ⟨w.heap.size + 1, 3, none⟩ = some (.string s2) ∧ w'.cell? ⟨w.heap.size + 1, 4, none⟩ = some (n2) ∧ w'.cell? ⟨w.heap.size + 1, 5, none⟩ = some (l2))) (by kernel_rfl) (by first | assumption | go_keep) (fun hHeld => ?_)
    refine tkH 0 rfl ?_; try simp only [ptH]
    refine tkH 2 rfl ?_; try simp only [ptH]
    refine rdH [1] ?_
    refine alH rfl fun K hK => ?_
    go_simp
    refine cA.mono ?_
    rintro e W1 ⟨rfl, hb1⟩
    exact ⟨rfl, rfl, bel_d HB.out hb1⟩
  | ok x =>
    cases T2 with
    | error c =>
      go_enter Tryz.func115, Tryz.ntmps115
      go_wp2_with fail
      try rw [hW0]
      refine wp_region_held_drew (S := fun w' => (w'.cell? ⟨w.heap.size, 0, none⟩ = some (.int .i64 k1) ∧ w'.cell? ⟨w.heap.size, 1, none⟩ = some (.bool b1) ∧ w'.cell? ⟨w.heap.size, 2, none⟩ = some (.int .i64 i1) ∧ w'.cell? ⟨w.heap.size, 3, none⟩ = some (.string s1) ∧ w'.cell? ⟨w.heap.size, 4, none⟩ = some (n1) ∧ w'.cell? ⟨w.heap.size, 5, none⟩ = some (l1)) ∧ (w'.cell? ⟨w.heap.size + 1, 0, none⟩ = some (.int .i64 k2) ∧ w'.cell? ⟨w.heap.size + 1, 1, none⟩ = some (.bool b2) ∧ w'.cell? ⟨w.heap.size + 1, 2, none⟩ = some (.int .i64 i2) ∧ w'.cell? ⟨w.heap.size + 1, 3, none⟩ = some (.string s2) ∧ w'.cell? ⟨w.heap.size + 1, 4, none⟩ = some (n2) ∧ w'.cell? ⟨w.heap.size + 1, 5, none⟩ = some (l2))) (by kernel_rfl) (by first | assumption | go_keep) (fun hHeld => ?_)
      refine tkH 0 rfl ?_; try simp only [ptH]
      refine tkH 2 rfl ?_; try simp only [ptH]
      refine rdH [1] ?_
      refine alH rfl fun K hK => ?_
      go_simp
      refine cA.mono ?_
      rintro e W1 ⟨rfl, hb1⟩
      have hp1 := (hb1.block w.heap.size (by rw [hsD]; omega)).trans HP.out
      have hq1 := (hb1.block (w.heap.size + 1) (by rw [hsD]; omega)).trans HQ.out
      obtain ⟨x0, x1, x2, x3, x4, x5⟩ := six_box hp1
      obtain ⟨y0, y1, y2, y3, y4, y5⟩ := six_box hq1
      have HR1 : Hid (W1.heap[w.heap.size + 2]? = some (.cells #[.int .i64 0, .bool false, .int .i64 0, .string ⟨#[]⟩, .slice none 0 0, .slice none 0 0] 46 (0, 0))) := (hb1.block (w.heap.size + 2) (by rw [hsD]; omega)).trans HR.out
      have HB1 : Hid (Below w.heap.size w W1) := bel_d HB.out hb1
      have HP1 : Hid _ := hp1
      have HQ1 : Hid _ := hq1
      have hs1 := hb1.size
      rw [hsD] at hs1
      have cB := HcB.out W1 HB1.out
      clear hp1 hq1 hb1 HR
      go_wp2_with fail
      refine hK.out _ _ (by first | assumption | go_keep) (fun hHeld => ?_)
      clear hK K
      try simp only [ptH]
      refine rdH [3] ?_
      refine alH rfl fun K hK => ?_
      go_simp
      refine cB.mono ?_
      rintro e W2 ⟨rfl, hb2⟩
      exact ⟨rfl, rfl, HB1.out.trans (hb2.mono HB1.out.size)⟩
    | ok y =>
      have hz1 := hz1 x rfl
      have hz2 := hz2 y rfl
      show Calls _ _ _ _ fun e w' => An w w' e _ (if 4096 < x.size + y.size then .error 1107 else .ok (x ++ y))
      by_cases hl : 4096 < x.size + y.size
      · have d : decide ((4096 : Int) < (x.size : Int) + (y.size : Int)) = true := decide_eq_true (by omega)
        rw [if_pos hl]
        unfold pkE at *
        clear hl
        go_enter Tryz.func115, Tryz.ntmps115
        go_wp2_with fail
        try rw [hW0]
        refine wp_region_held_drew (S := fun w' => (w'.cell? ⟨w.heap.size, 0, none⟩ = some (.int .i64 k1) ∧ w'.cell? ⟨w.heap.size, 1, none⟩ = some (.bool b1) ∧ w'.cell? ⟨w.heap.size, 2, none⟩ = some (.int .i64 i1) ∧ w'.cell? ⟨w.heap.size, 3, none⟩ = some (.string s1) ∧ w'.cell? ⟨w.heap.size, 4, none⟩ = some (n1) ∧ w'.cell? ⟨w.heap.size, 5, none⟩ = some (l1)) ∧ (w'.cell? ⟨w.heap.size + 1, 0, none⟩ = some (.int .i64 k2) ∧ w'.cell? ⟨w.heap.size + 1, 1, none⟩ = some (.bool b2) ∧ w'.cell? ⟨w.heap.size + 1, 2, none⟩ = some (.int .i64 i2) ∧ w'.cell? ⟨w.heap.size + 1, 3, none⟩ = some (.string s2) ∧ w'.cell? ⟨w.heap.size + 1, 4, none⟩ = some (n2) ∧ w'.cell? ⟨w.heap.size + 1, 5, none⟩ = some (l2))) (by kernel_rfl) (by first | assumption | go_keep) (fun hHeld => ?_)
        refine tkH 0 rfl ?_; try simp only [ptH]
        refine tkH 2 rfl ?_; try simp only [ptH]
        refine rdH [1] ?_
        refine alH rfl fun K hK => ?_
        go_simp
        refine cA.mono ?_
        rintro e W1 ⟨rfl, hb1⟩
        have hp1 := (hb1.block w.heap.size (by rw [hsD]; omega)).trans HP.out
        have hq1 := (hb1.block (w.heap.size + 1) (by rw [hsD]; omega)).trans HQ.out
        obtain ⟨x0, x1, x2, x3, x4, x5⟩ := six_box hp1
        obtain ⟨y0, y1, y2, y3, y4, y5⟩ := six_box hq1
        have HR1 : Hid (W1.heap[w.heap.size + 2]? = some (.cells #[.int .i64 0, .bool false, .int .i64 0, .string ⟨#[]⟩, .slice none 0 0, .slice none 0 0] 46 (0, 0))) := (hb1.block (w.heap.size + 2) (by rw [hsD]; omega)).trans HR.out
        have HB1 : Hid (Below w.heap.size w W1) := bel_d HB.out hb1
        have HP1 : Hid _ := hp1
        have HQ1 : Hid _ := hq1
        have hs1 := hb1.size
        rw [hsD] at hs1
        have cB := HcB.out W1 HB1.out
        clear hp1 hq1 hb1 HR
        go_wp2_with fail
        refine hK.out _ _ (by first | assumption | go_keep) (fun hHeld => ?_)
        clear hK K
        try simp only [ptH]
        refine rdH [3] ?_
        refine alH rfl fun K hK => ?_
        go_simp
        refine cB.mono ?_
        rintro e W2 ⟨rfl, hb2⟩
        obtain ⟨z0, z1, z2, z3, z4, z5⟩ := six_box ((hb2.block w.heap.size (by omega)).trans HP1.out)
        obtain ⟨t0, t1, t2, t3, t4, t5⟩ := six_box ((hb2.block (w.heap.size + 1) (by omega)).trans HQ1.out)
        have HR2 : Hid (W2.heap[w.heap.size + 2]? = some (.cells #[.int .i64 0, .bool false, .int .i64 0, .string ⟨#[]⟩, .slice none 0 0, .slice none 0 0] 46 (0, 0))) := (hb2.block (w.heap.size + 2) (by omega)).trans HR1.out
        have HB2 : Hid (Below w.heap.size w W2) := HB1.out.trans (hb2.mono HB1.out.size)
        have hs2 := hb2.size
        clear hb2
        go_wp2_with fail
        refine hK.out _ _ (by first | assumption | go_keep) (fun hHeld => ?_)
        clear hK K
        try simp only [ptH]
        refine tkH 4 rfl ?_; try simp only [ptH]
        refine tkH 5 rfl ?_; try simp only [ptH]
        refine dnH ?_
        clear HP HQ HP1 HQ1 HcB cA cB p0 p1 p2 p3 p4 p5 q0 q1 q2 q3 q4 q5 x0 x1 x2 x3 x4 x5 y0 y1 y2 y3 y4 y5 z0 z1 z2 z3 z4 z5 t0 t1 t2 t3 t4 t5 hHeld
        go_wp2_with fail
        exact ⟨rfl, rfl, HB2.out⟩
      · have d : decide ((4096 : Int) < (x.size : Int) + (y.size : Int)) = false := decide_eq_false (by omega)
        rw [if_neg hl]
        have hsm : x.size + y.size ≤ 4096 := by omega
        clear hl
        go_enter Tryz.func115, Tryz.ntmps115
        go_wp2_with fail
        try rw [hW0]
        refine wp_region_held_drew (S := fun w' => (w'.cell? ⟨w.heap.size, 0, none⟩ = some (.int .i64 k1) ∧ w'.cell? ⟨w.heap.size, 1, none⟩ = some (.bool b1) ∧ w'.cell? ⟨w.heap.size, 2, none⟩ = some (.int .i64 i1) ∧ w'.cell? ⟨w.heap.size, 3, none⟩ = some (.string s1) ∧ w'.cell? ⟨w.heap.size, 4, none⟩ = some (n1) ∧ w'.cell? ⟨w.heap.size, 5, none⟩ = some (l1)) ∧ (w'.cell? ⟨w.heap.size + 1, 0, none⟩ = some (.int .i64 k2) ∧ w'.cell? ⟨w.heap.size + 1, 1, none⟩ = some (.bool b2) ∧ w'.cell? ⟨w.heap.size + 1, 2, none⟩ = some (.int .i64 i2) ∧ w'.cell? ⟨w.heap.size + 1, 3, none⟩ = some (.string s2) ∧ w'.cell? ⟨w.heap.size + 1, 4, none⟩ = some (n2) ∧ w'.cell? ⟨w.heap.size + 1, 5, none⟩ = some (l2))) (by kernel_rfl) (by first | assumption | go_keep) (fun hHeld => ?_)
        refine tkH 0 rfl ?_; try simp only [ptH]
        refine tkH 2 rfl ?_; try simp only [ptH]
        refine rdH [1] ?_
        refine alH rfl fun K hK => ?_
        go_simp
        refine cA.mono ?_
        rintro e W1 ⟨rfl, hb1⟩
        have hp1 := (hb1.block w.heap.size (by rw [hsD]; omega)).trans HP.out
        have hq1 := (hb1.block (w.heap.size + 1) (by rw [hsD]; omega)).trans HQ.out
        obtain ⟨x0, x1, x2, x3, x4, x5⟩ := six_box hp1
        obtain ⟨y0, y1, y2, y3, y4, y5⟩ := six_box hq1
        have HR1 : Hid (W1.heap[w.heap.size + 2]? = some (.cells #[.int .i64 0, .bool false, .int .i64 0, .string ⟨#[]⟩, .slice none 0 0, .slice none 0 0] 46 (0, 0))) := (hb1.block (w.heap.size + 2) (by rw [hsD]; omega)).trans HR.out
        have HB1 : Hid (Below w.heap.size w W1) := bel_d HB.out hb1
        have HP1 : Hid _ := hp1
        have HQ1 : Hid _ := hq1
        have hs1 := hb1.size
        rw [hsD] at hs1
        have cB := HcB.out W1 HB1.out
        clear hp1 hq1 hb1 HR
        go_wp2_with fail
        refine hK.out _ _ (by first | assumption | go_keep) (fun hHeld => ?_)
        clear hK K
        try simp only [ptH]
        refine rdH [3] ?_
        refine alH rfl fun K hK => ?_
        go_simp
        refine cB.mono ?_
        rintro e W2 ⟨rfl, hb2⟩
        obtain ⟨z0, z1, z2, z3, z4, z5⟩ := six_box ((hb2.block w.heap.size (by omega)).trans HP1.out)
        obtain ⟨t0, t1, t2, t3, t4, t5⟩ := six_box ((hb2.block (w.heap.size + 1) (by omega)).trans HQ1.out)
        have HR2 : Hid (W2.heap[w.heap.size + 2]? = some (.cells #[.int .i64 0, .bool false, .int .i64 0, .string ⟨#[]⟩, .slice none 0 0, .slice none 0 0] 46 (0, 0))) := (hb2.block (w.heap.size + 2) (by omega)).trans HR1.out
        have HB2 : Hid (Below w.heap.size w W2) := HB1.out.trans (hb2.mono HB1.out.size)
        have hs2 := hb2.size
        clear hb2
        go_wp2_with fail
        refine hK.out _ _ (by first | assumption | go_keep) (fun hHeld => ?_)
        clear hK K
        try simp only [ptH]
        refine tkH 4 rfl ?_; try simp only [ptH]
        refine tkH 5 rfl ?_; try simp only [ptH]
        refine dnH ?_
        clear HP HQ HP1 HQ1 HcB cA cB p0 p1 p2 p3 p4 p5 q0 q1 q2 q3 q4 q5 x0 x1 x2 x3 x4 x5 y0 y1 y2 y3 y4 y5 z0 z1 z2 z3 z4 z5 t0 t1 t2 t3 t4 t5 hHeld
        have cX := text_c (x ++ y) W2
        go_wp2_with fail
        refine cX.mono ?_
        rintro e W3 ⟨rfl, hb3⟩
        have hr := (hb3.block (w.heap.size + 2) (by omega)).trans HR2.out
        have HB3 : Hid (Below w.heap.size w W3) := HB2.out.trans (hb3.mono HB2.out.size)
        clear hb3 cX
        obtain ⟨r0, r1, r2, r3, r4, r5⟩ := six_box hr
        have rf0 := frozen_box hr 0
        have rf1 := frozen_box hr 1
        have rf2 := frozen_box hr 2
        have rf3 := frozen_box hr 3
        have rf4 := frozen_box hr 4
        have rf5 := frozen_box hr 5
        go_wp2_with fail
        obtain ⟨W9, hW9⟩ : ∃ W9, ((((((W3.setCell ⟨w.heap.size + 2, 0, none⟩ (.int .i64 4)).setCell ⟨w.heap.size + 2, 1, none⟩ (.bool false)).setCell ⟨w.heap.size + 2, 2, none⟩ (.int .i64 0)).setCell ⟨w.heap.size + 2, 3, none⟩ (.string (x ++ y))).setCell ⟨w.heap.size + 2, 4, none⟩ (.slice none 0 0)).setCell ⟨w.heap.size + 2, 5, none⟩ (.slice none 0 0)) = W9 := ⟨_, rfl⟩
        rw [hW9]
        obtain ⟨q1, q2, q3, q4⟩ := set6 _ _ _ _ _ _ hr hW9
        refine bodyPost_ret (results_cell_row rfl _ W9 (w.heap.size + 2) 46 _ (0, 0) _ rfl q1 Tryz.underlying46 rfl (by kernel_rfl)) rfl ?_
        exact ⟨rfl, q4 _ _ (by omega) HB3.out⟩
end Go.Proofs.YthjbknncbhkinaaGreatDoor.VJn

namespace Go.Proofs.YthjbknncbhkinaaGreatDoor.VRs
open Go.RowKit Go.Proofs.YthjbknncbhkinaaGreatDoor.Base Go.Proofs.YthjbknncbhkinaaGreatDoor.EPure Go.Proofs.YthjbknncbhkinaaGreatDoor.VPure Go.Proofs.YthjbknncbhkinaaGreatDoor.VSm Go.Proofs.YthjbknncbhkinaaGreatDoor.VIn Go.Proofs.YthjbknncbhkinaaGreatDoor.VJn Go.Proofs.YthjbknncbhkinaaGreatDoor.Sums
set_option linter.unusedVariables false

/-- A value handed out (its lists in blocks below K), or an error thrown. -/
def VR (K m : Nat) (w : World) (a : Ans) (e : Ending) (w' : World) : Prop := Below w.heap.size w w' ∧ match a with
  | .ok c => ∃ u, e = .returned u ∧ Base.In false (fun b => b < K) w' m u c
  | .error n => e = .panicked (pkE n)
theorem VR.trans {K m : Nat} {w w1 w' : World} {a : Ans} {e : Ending} (hb : Below w.heap.size w w1) (h : VR K m w1 a e w') : VR K m w a e w' := ⟨hb.trans (h.1.mono hb.size), h.2⟩
theorem in_low {K m : Nat} {w w' : World} {u : Value} {c : C} (h : Base.In false (fun b => b < K) w m u c) (hb : Below K w w') : Base.In false (fun b => b < K) w' m u c := h.keep fun b hb' _ => hb.block b hb'
theorem in_v0 (S : Nat → Prop) (w : World) (m : Nat) {k i : Int} (b : Bool) {s : ByteArray} (hk : -9223372036854775808 ≤ k ∧ k ≤ 9223372036854775807) (hi : -9223372036854775808 ≤ i ∧ i ≤ 9223372036854775807) (hs : s.size ≤ 140737488351232) :
    Base.In false S w (m + 1) (v0 k b i s) (.mk k b i s [] []) := by
  rw [Base.in_iff]
  refine ⟨_, _, rfl, hk, hi, hs, ⟨none, 0, rfl, Nat.le_refl _, Nat.zero_le _, by simp, by simp, fun _ => rfl, .inl ⟨rfl, rfl⟩⟩, none, 0, rfl, Nat.le_refl _, Nat.zero_le _, by simp, fun _ => rfl, .inl ⟨rfl, rfl⟩⟩
theorem in_int (S : Nat → Prop) (w : World) (m : Nat) {i : Int} (hi : -9223372036854775808 ≤ i ∧ i ≤ 9223372036854775807) : Base.In false S w (m + 1) (v0 3 false i ⟨#[]⟩) (intC i) := in_v0 S w m false (by omega) hi (by decide)
theorem in_boo (S : Nat → Prop) (w : World) (m : Nat) (b : Bool) : Base.In false S w (m + 1) (v0 2 b 0 ⟨#[]⟩) (booC b) := in_v0 S w m b (by omega) (by omega) (by decide)
theorem in_str (S : Nat → Prop) (w : World) (m : Nat) {s : ByteArray} (hs : s.size ≤ 140737488351232) : Base.In false S w (m + 1) (v0 4 false 0 s) (strC s) := in_v0 S w m false (by omega) (by omega) hs
theorem in_nul (S : Nat → Prop) (w : World) (m : Nat) : Base.In false S w (m + 1) (v0 1 false 0 ⟨#[]⟩) nulC := in_v0 S w m false (by omega) (by omega) (by decide)
theorem in_zer (S : Nat → Prop) (w : World) (m : Nat) : Base.In false S w (m + 1) (v0 0 false 0 ⟨#[]⟩) zerC := in_v0 S w m false (by omega) (by omega) (by decide)
theorem wh_rng {o x y : Int} (hx : -9223372036854775808 ≤ x ∧ x ≤ 9223372036854775807) : -9223372036854775808 ≤ (wh o x y).1 ∧ (wh o x y).1 ≤ 9223372036854775807 := by
  unfold wh
  have hn : ∀ z : Int, -9223372036854775808 ≤ num z ∧ num z ≤ 9223372036854775807 := fun z => ⟨num_ge z, num_le z⟩
  repeat' split
  all_goals first
    | exact hn _
    | (unfold WhA.dnum; split; (omega); exact hn _)
    | (unfold WhA.mnum; split; (omega); exact WhA.tmod_range _ hx.1 hx.2)
    | exact WhA.div_range hx.1 hx.2 (Int.pow_pos (by omega))
    | (exact ⟨by omega, by omega⟩)
/-- pair at an operation of two integers. -/
theorem an_vr {K m : Nat} {w w' : World} {e : Ending} {a : Except Nat Int} (hr : ∀ c, a = .ok c → -9223372036854775808 ≤ c ∧ c ≤ 9223372036854775807) (h : An w w' e (fun c : Int => v0 3 false c ⟨#[]⟩) a) : VR K (m + 1) w (mapI a) e w' := by
  cases a with
  | error n => exact ⟨h.2, h.1⟩
  | ok c => exact ⟨h.2, _, h.1, in_int _ w' m (hr c rfl)⟩
theorem tw_ok {k1 k2 x e0 c : Int} (h : twI k1 k2 x e0 = .ok c) : c = x := by
  unfold twI chkI at h
  repeat' split at h
  all_goals first | (injection h with h; exact h.symm) | (cases h)
theorem in_shape {S : Nat → Prop} {w : World} {m : Nat} {u : Value} {c : C} (h : Base.In false S w m u c) : ∃ an ln cn al ll cl, u = vl c.k c.b c.i c.s (.slice an ln cn) (.slice al ll cl) := by
  obtain ⟨m', nv, lv, -, hu, -, -, -, hn, hl⟩ := h.shape
  obtain ⟨an, cn, rfl, -⟩ := hn
  obtain ⟨al, cl, rfl, -⟩ := hl
  exact ⟨an, _, cn, al, _, cl, hu⟩
theorem in_rng {S : Nat → Prop} {w : World} {m : Nat} {u : Value} {c : C} (h : Base.In false S w m u c) : -9223372036854775808 ≤ c.i ∧ c.i ≤ 9223372036854775807 := by
  obtain ⟨m', nv, lv, -, hu, -, hi, -, -, -⟩ := h.shape
  exact hi
end Go.Proofs.YthjbknncbhkinaaGreatDoor.VRs

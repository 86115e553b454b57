import Derived.Laws.BitsAllLaws
import Derived.Lib.ItoaLen
import Derived.LoopN
import Derived.LoopTactic
import Derived.Maps.AppendAt
import Derived.WalkSpells
import Derived.Test.YtiijfmdfccdagaaGreatDoorPA00
import Derived.Test.YtiijfmdfccdagaaGreatDoorPA01
import Derived.Test.YtiijfmdfccdagaaGreatDoorPA02
import Derived.Test.YtiijfmdfccdagaaGreatDoorPA04
open Go.Proofs.Tryz
set_option linter.unusedVariables false
set_option maxRecDepth 20000
set_option maxHeartbeats 3200000
namespace Go.Proofs.YtiijfmdfccdagaaGreatDoor.VJn
open Tak
open Go.RowKit Base VPure VSm VIn
def Tb (w : World) : Prop := ∀ W', Below w.heap.size w W' -> Digits.Tab W'
theorem Tb.below {w w' : World} (h : Tb w) (hb : Below w.heap.size w w') : Tb w' := fun W hW => h W (hb.trans (hW.mono hb.size))
theorem txt_le {m : Nat} {v : Value} {c : C} {w : World} (h : Base.In false All w m v c) {x : ByteArray} (hx : txt c = .ok x) : x.size <= 140737488351232 := by
 obtain ⟨m', nv, lv, -, -, -, hi, hs, -, -⟩ := h.shape
 unfold txt at hx
 split at hx
 ·injection hx with hx
  subst hx
  obtain ⟨k, b, i, s, n, l⟩ := c
  simp only [C.i, C.s] at hi hs
  rw [TextKey.tx]
  have hl := Lib.itoa_length_le i hi.1 hi.2
  have he : (⟨(Lib.itoa i).toArray⟩ : ByteArray).size = (Lib.itoa i).length := by show (Lib.itoa i).toArray.size = _; simp
  repeat' split
  all_goals first | decide | exact hs | (rw [he]; omega)
 ·cases hx
theorem textOf_c {m : Nat} {v : Value} {c : C} {w : World} (h : Base.In false All w m v c) (ht : Tb w) :
  Calls prog 162 #[v] w fun e w' => An w w' e Value.string (txt c) := by
 have hin := h
 obtain ⟨m', nv, lv, hm, rfl, -⟩ := h.shape
 obtain ⟨W0, hW0⟩ : ∃ W0, w.alloc (.cells #[.int .i64 c.k, .bool c.b, .int .i64 c.i, .string c.s, nv, lv] 26) = W0 := ⟨_, rfl⟩
 have hb0 := alB hW0
 have hp := alG hW0
 obtain ⟨p0, p1, p2, p3, p4, p5⟩ := six_box hp
 have cT := TextKey.text_c (hin.below hb0) (ht W0 hb0)
 have HB := hid hb0
 unfold txt
 generalize TextKey.te c = te at *
 generalize TextKey.tx c = tx at *
 generalize c.k = k at *
 generalize c.b = b at *
 generalize c.i = i at *
 generalize c.s = s at *
 clear h hin hb0 hp ht hm
 by_cases he : te = 0
 ·subst he
  rw [if_pos rfl]
  go_enter func162, ntmps162
  go_wp2_with fail
  try rw [hW0]
  refine cT.mono ?_
  rintro e W1 ⟨rfl, hb1⟩
  have HB1 := hid (HB.out.trans (hb1.mono HB.out.size))
  have c1 := must_t W1
  clear hb1 cT HB p0 p1 p2 p3 p4 p5 hW0
  go_wp2_with fail
  refine c1.mono ?_
  rintro e W2 ⟨⟨v2, rfl⟩, rfl⟩
  go_wp2_with fail
  go_ret
  exact ⟨rfl, HB1.out⟩
 ·rw [if_neg he]
  have d : (te == 0) = false := by simp [he]
  clear he
  go_enter func162, ntmps162
  go_wp2_with fail
  try rw [hW0]
  refine cT.mono ?_
  rintro e W1 ⟨rfl, hb1⟩
  have HB1 := hid (HB.out.trans (hb1.mono HB.out.size))
  have c1 := must_f W1
  clear hb1 cT HB p0 p1 p2 p3 p4 p5 hW0
  go_wp2_with fail
  refine c1.mono ?_
  rintro e W2 ⟨rfl, rfl⟩
  exact ⟨rfl, rfl, HB1.out⟩
theorem join_c {m1 m2 : Nat} {c1 c2 : C} (k1 : Int) (b1 : Bool) (i1 : Int) (s1 : ByteArray) (n1 l1 : Value) (k2 : Int) (b2 : Bool) (i2 : Int) (s2 : ByteArray) (n2 l2 : Value) {w : World} (hi1 : Base.In false All w m1 (vl k1 b1 i1 s1 n1 l1) c1) (hi2 : Base.In false All w m2 (vl k2 b2 i2 s2 n2 l2) c2) (ht : Tb w) : Calls prog 131 #[vl k1 b1 i1 s1 n1 l1, vl k2 b2 i2 s2 n2 l2] w fun e w' => An w w' e (fun s : ByteArray => v0 4 false 0 s) (bnd (txt c1) fun x => bnd (txt c2) fun y => if 4096 < x.size + y.size then .error 1107 else .ok (x ++ y)) := by
 obtain ⟨W0, hW0, hs0, hb0, hp, hq, hr⟩ := two3 w #[.int .i64 k1, .bool b1, .int .i64 i1, .string s1, n1, l1] #[.int .i64 k2, .bool b2, .int .i64 i2, .string s2, n2, l2]
 have HP := hid hp
 have HQ := hid hq
 have HB := hid hb0
 have hsD : W0.drew.heap.size = w.heap.size + 3 := by simp [hs0]
 obtain ⟨p0, p1, p2, p3, p4, p5⟩ := six_box hp
 obtain ⟨q0, q1, q2, q3, q4, q5⟩ := six_box hq
 have HR := hid hr
 have z1 : ∀ W, Below W0.drew.heap.size W0.drew W -> Below w.heap.size w W := fun W h => bel_d hb0 h
 have cA : ∀ W, Below w.heap.size w W -> Calls prog 162 #[vl k1 b1 i1 s1 n1 l1] W fun e w' => An W w' e Value.string (txt c1) := fun W h => textOf_c (hi1.below h) (ht.below h)
 have cB : ∀ W, Below w.heap.size w W -> Calls prog 162 #[vl k2 b2 i2 s2 n2 l2] W fun e w' => An W w' e Value.string (txt c2) := fun W h => textOf_c (hi2.below h) (ht.below h)
 have cA := cA _ (z1 _ (Below.refl _ _))
 have HcB := hid cB
 have hz1 := fun x => @txt_le _ _ _ _ hi1 x
 have hz2 := fun x => @txt_le _ _ _ _ hi2 x
 clear hp hq hb0 hr hi1 hi2 ht z1 cB
 generalize txt c1 = T1 at *
 generalize txt c2 = T2 at *
 cases T1 with
 | error c =>
  go_enter func131, ntmps131
  go_wp2_with fail
  try rw [hW0]
  refine rh12 w.heap.size (w.heap.size + 1) k1 b1 i1 s1 n1 l1 k2 b2 i2 s2 n2 l2 (by kernel_rfl) (by first | assumption | go_keep) (fun hHeld => ?_)
  refine tkH 0 rfl ?_; try simp only [ptH]
  refine tkH 2 rfl ?_; try simp only [ptH]
  refine rdH [1] ?_
  refine alH rfl fun K hK => ?_
  go_simp
  refine cA.mono ?_
  rintro e W1 ⟨rfl, hb1⟩
  exact ⟨rfl, rfl, bel_d HB.out hb1⟩
 | ok x =>
  cases T2 with
  | error c =>
   go_enter func131, ntmps131
   go_wp2_with fail
   try rw [hW0]
   refine rh12 w.heap.size (w.heap.size + 1) k1 b1 i1 s1 n1 l1 k2 b2 i2 s2 n2 l2 (by kernel_rfl) (by first | assumption | go_keep) (fun hHeld => ?_)
   refine tkH 0 rfl ?_; try simp only [ptH]
   refine tkH 2 rfl ?_; try simp only [ptH]
   refine rdH [1] ?_
   refine alH rfl fun K hK => ?_
   go_simp
   refine cA.mono ?_
   rintro e W1 ⟨rfl, hb1⟩
   have hp1 := (hb1.block w.heap.size (by rw [hsD]; omega)).trans HP.out
   have hq1 := (hb1.block (w.heap.size + 1) (by rw [hsD]; omega)).trans HQ.out
   obtain ⟨x0, x1, x2, x3, x4, x5⟩ := six_box hp1
   obtain ⟨y0, y1, y2, y3, y4, y5⟩ := six_box hq1
   have HR1 : Hid (W1.heap[w.heap.size + 2]? = some (.cells #[.int .i64 0, .bool false, .int .i64 0, .string ⟨#[]⟩, .slice none 0 0, .slice none 0 0] 26 (0, 0))) := (hb1.block (w.heap.size + 2) (by rw [hsD]; omega)).trans HR.out
   have HB1 := hid (bel_d HB.out hb1)
   have HP1 := hid hp1
   have HQ1 := hid hq1
   have hs1 := hb1.size
   rw [hsD] at hs1
   have cB := HcB.out W1 HB1.out
   clear hp1 hq1 hb1 HR
   go_wp2_with fail
   refine hK.out _ _ (by first | assumption | go_keep) (fun hHeld => ?_)
   clear hK K
   try simp only [ptH]
   refine rdH [3] ?_
   refine alH rfl fun K hK => ?_
   go_simp
   refine cB.mono ?_
   rintro e W2 ⟨rfl, hb2⟩
   exact ⟨rfl, rfl, HB1.out.trans (hb2.mono HB1.out.size)⟩
  | ok y =>
   have hz1 := hz1 x rfl
   have hz2 := hz2 y rfl
   show Calls _ _ _ _ fun e w' => An w w' e _ (if 4096 < x.size + y.size then .error 1107 else .ok (x ++ y))
   by_cases hl : 4096 < x.size + y.size
   ·have d : decide ((4096 : Int) < (x.size : Int) + (y.size : Int)) = true := decide_eq_true (by omega)
    rw [if_pos hl]
    unfold pkE at *
    clear hl
    go_enter func131, ntmps131
    go_wp2_with fail
    try rw [hW0]
    refine rh12 w.heap.size (w.heap.size + 1) k1 b1 i1 s1 n1 l1 k2 b2 i2 s2 n2 l2 (by kernel_rfl) (by first | assumption | go_keep) (fun hHeld => ?_)
    refine tkH 0 rfl ?_; try simp only [ptH]
    refine tkH 2 rfl ?_; try simp only [ptH]
    refine rdH [1] ?_
    refine alH rfl fun K hK => ?_
    go_simp
    refine cA.mono ?_
    rintro e W1 ⟨rfl, hb1⟩
    have hp1 := (hb1.block w.heap.size (by rw [hsD]; omega)).trans HP.out
    have hq1 := (hb1.block (w.heap.size + 1) (by rw [hsD]; omega)).trans HQ.out
    obtain ⟨x0, x1, x2, x3, x4, x5⟩ := six_box hp1
    obtain ⟨y0, y1, y2, y3, y4, y5⟩ := six_box hq1
    have HR1 : Hid (W1.heap[w.heap.size + 2]? = some (.cells #[.int .i64 0, .bool false, .int .i64 0, .string ⟨#[]⟩, .slice none 0 0, .slice none 0 0] 26 (0, 0))) := (hb1.block (w.heap.size + 2) (by rw [hsD]; omega)).trans HR.out
    have HB1 := hid (bel_d HB.out hb1)
    have HP1 := hid hp1
    have HQ1 := hid hq1
    have hs1 := hb1.size
    rw [hsD] at hs1
    have cB := HcB.out W1 HB1.out
    clear hp1 hq1 hb1 HR
    go_wp2_with fail
    refine hK.out _ _ (by first | assumption | go_keep) (fun hHeld => ?_)
    clear hK K
    try simp only [ptH]
    refine rdH [3] ?_
    refine alH rfl fun K hK => ?_
    go_simp
    refine cB.mono ?_
    rintro e W2 ⟨rfl, hb2⟩
    obtain ⟨z0, z1, z2, z3, z4, z5⟩ := six_box ((hb2.block w.heap.size (by omega)).trans HP1.out)
    obtain ⟨t0, t1, t2, t3, t4, t5⟩ := six_box ((hb2.block (w.heap.size + 1) (by omega)).trans HQ1.out)
    have HR2 := hid ((hb2.block (w.heap.size + 2) (by omega)).trans HR1.out)
    have HB2 := hid (HB1.out.trans (hb2.mono HB1.out.size))
    have hs2 := hb2.size
    clear hb2
    go_wp2_with fail
    refine hK.out _ _ (by first | assumption | go_keep) (fun hHeld => ?_)
    clear hK K
    try simp only [ptH]
    refine tkH 4 rfl ?_; try simp only [ptH]
    refine tkH 5 rfl ?_; try simp only [ptH]
    refine dnH ?_
    clear HP HQ HP1 HQ1 HcB cA cB p0 p1 p2 p3 p4 p5 q0 q1 q2 q3 q4 q5 x0 x1 x2 x3 x4 x5 y0 y1 y2 y3 y4 y5 z0 z1 z2 z3 z4 z5 t0 t1 t2 t3 t4 t5 hHeld
    go_wp2_with fail
    exact ⟨rfl, rfl, HB2.out⟩
   ·have d : decide ((4096 : Int) < (x.size : Int) + (y.size : Int)) = false := decide_eq_false (by omega)
    rw [if_neg hl]
    have hsm : x.size + y.size <= 4096 := by omega
    clear hl
    go_enter func131, ntmps131
    go_wp2_with fail
    try rw [hW0]
    refine rh12 w.heap.size (w.heap.size + 1) k1 b1 i1 s1 n1 l1 k2 b2 i2 s2 n2 l2 (by kernel_rfl) (by first | assumption | go_keep) (fun hHeld => ?_)
    refine tkH 0 rfl ?_; try simp only [ptH]
    refine tkH 2 rfl ?_; try simp only [ptH]
    refine rdH [1] ?_
    refine alH rfl fun K hK => ?_
    go_simp
    refine cA.mono ?_
    rintro e W1 ⟨rfl, hb1⟩
    have hp1 := (hb1.block w.heap.size (by rw [hsD]; omega)).trans HP.out
    have hq1 := (hb1.block (w.heap.size + 1) (by rw [hsD]; omega)).trans HQ.out
    obtain ⟨x0, x1, x2, x3, x4, x5⟩ := six_box hp1
    obtain ⟨y0, y1, y2, y3, y4, y5⟩ := six_box hq1
    have HR1 : Hid (W1.heap[w.heap.size + 2]? = some (.cells #[.int .i64 0, .bool false, .int .i64 0, .string ⟨#[]⟩, .slice none 0 0, .slice none 0 0] 26 (0, 0))) := (hb1.block (w.heap.size + 2) (by rw [hsD]; omega)).trans HR.out
    have HB1 := hid (bel_d HB.out hb1)
    have HP1 := hid hp1
    have HQ1 := hid hq1
    have hs1 := hb1.size
    rw [hsD] at hs1
    have cB := HcB.out W1 HB1.out
    clear hp1 hq1 hb1 HR
    go_wp2_with fail
    refine hK.out _ _ (by first | assumption | go_keep) (fun hHeld => ?_)
    clear hK K
    try simp only [ptH]
    refine rdH [3] ?_
    refine alH rfl fun K hK => ?_
    go_simp
    refine cB.mono ?_
    rintro e W2 ⟨rfl, hb2⟩
    obtain ⟨z0, z1, z2, z3, z4, z5⟩ := six_box ((hb2.block w.heap.size (by omega)).trans HP1.out)
    obtain ⟨t0, t1, t2, t3, t4, t5⟩ := six_box ((hb2.block (w.heap.size + 1) (by omega)).trans HQ1.out)
    have HR2 := hid ((hb2.block (w.heap.size + 2) (by omega)).trans HR1.out)
    have HB2 := hid (HB1.out.trans (hb2.mono HB1.out.size))
    have hs2 := hb2.size
    clear hb2
    go_wp2_with fail
    refine hK.out _ _ (by first | assumption | go_keep) (fun hHeld => ?_)
    clear hK K
    try simp only [ptH]
    refine tkH 4 rfl ?_; try simp only [ptH]
    refine tkH 5 rfl ?_; try simp only [ptH]
    refine dnH ?_
    clear HP HQ HP1 HQ1 HcB cA cB p0 p1 p2 p3 p4 p5 q0 q1 q2 q3 q4 q5 x0 x1 x2 x3 x4 x5 y0 y1 y2 y3 y4 y5 z0 z1 z2 z3 z4 z5 t0 t1 t2 t3 t4 t5 hHeld
    have cX := text_c (x ++ y) W2
    go_wp2_with fail
    refine cX.mono ?_
    rintro e W3 ⟨rfl, hb3⟩
    have hr := (hb3.block (w.heap.size + 2) (by omega)).trans HR2.out
    have HB3 := hid (HB2.out.trans (hb3.mono HB2.out.size))
    clear hb3 cX
    obtain ⟨r0, r1, r2, r3, r4, r5⟩ := six_box hr
    obtain ⟨rf0, rf1, rf2, rf3, rf4, rf5⟩ := Base.frz6 hr
    go_wp2_with fail
    obtain ⟨W9, hW9⟩ := stc6 W3 (w.heap.size + 2) (.int .i64 4) (.bool false) (.int .i64 0) (.string (x ++ y)) (.slice none 0 0) (.slice none 0 0)
    rw [hW9]
    obtain ⟨q1, q2, q3, q4⟩ := set6 _ _ _ _ _ _ hr hW9
    refine bodyPost_ret (results_cell_row rfl _ W9 (w.heap.size + 2) 26 _ (0, 0) _ rfl q1 underlying26 rfl (by kernel_rfl)) rfl ?_
    exact ⟨rfl, q4 _ _ (by omega) HB3.out⟩
end Go.Proofs.YtiijfmdfccdagaaGreatDoor.VJn
namespace Go.Proofs.YtiijfmdfccdagaaGreatDoor.XBase
open Go.RowKit EPure
open Base (cell_lt Keep nx nxB add_none heap_alloc_new box_at below_box All below_cell)
def room7 : Value := .agg #[.int .i64 (-7), .int .i64 0, .string ⟨#[]⟩, .slice none 0 0]
def Four (w : World) (g o : Nat) (u : Value) : Prop :=
 ∃ v0 v1 v2 v3, u = .agg #[v0, v1, v2, v3] /\ w.cell? ⟨g, o, none⟩ = some v0 /\ w.cell? ⟨g, o + 1, none⟩ = some v1 /\ w.cell? ⟨g, o + 2, none⟩ = some v2 /\ w.cell? ⟨g, o + 3, none⟩ = some v3
def In (r : Bool) (S : Nat -> Prop) (w : World) : Nat -> Value -> Ex -> Prop
 | 0, _, _ => False
 | m + 1, v, .mk k i s l => ∃ a cap, v = .agg #[.int .i64 k, .int .i64 i, .string s, .slice a l.length cap] /\
   (-9223372036854775808 <= k /\ k <= 9223372036854775807) /\ (-9223372036854775808 <= i /\ i <= 9223372036854775807) /\ s.size <= 140737488351232 /\
   l.length <= cap /\ cap <= 9223372036854775807 /\ l.length * 56 <= 140737488351232 /\ (a = none -> cap = 0) /\
   ((l = [] /\ r = false) \/ ∃ g o, a = some ⟨g, o, none⟩ /\ S g /\ (∀ j (h : j < l.length), ∃ u, Four w g (o + j * 4) u /\ In r S w m u l[j]) /\
    (r = true -> l.length + 2 <= cap /\ Four w g (o + l.length * 4) room7 /\ Four w g (o + l.length * 4 + 4) room7))
def LAt (r : Bool) (S : Nat -> Prop) (w : World) (m : Nat) (a : Option Addr) (cap : Nat) (l : List Ex) : Prop := (l = [] /\ r = false) \/ ∃ g o, a = some ⟨g, o, none⟩ /\ S g /\ (∀ j (h : j < l.length), ∃ u, Four w g (o + j * 4) u /\ In r S w m u l[j]) /\
    (r = true -> l.length + 2 <= cap /\ Four w g (o + l.length * 4) room7 /\ Four w g (o + l.length * 4 + 4) room7)
def InL (r : Bool) (S : Nat -> Prop) (w : World) (m : Nat) (v : Value) (l : List Ex) : Prop :=
 ∃ a cap, v = .slice a l.length cap /\ l.length <= cap /\ cap <= 9223372036854775807 /\ l.length * 56 <= 140737488351232 /\ (a = none -> cap = 0) /\ LAt r S w m a cap l
theorem in_iff {r : Bool} {S : Nat -> Prop} {w : World} {m : Nat} {v : Value} {k i : Int} {s : ByteArray} {l : List Ex} :
  In r S w (m + 1) v (.mk k i s l) ↔ ∃ lv, v = .agg #[.int .i64 k, .int .i64 i, .string s, lv] /\
   (-9223372036854775808 <= k /\ k <= 9223372036854775807) /\ (-9223372036854775808 <= i /\ i <= 9223372036854775807) /\ s.size <= 140737488351232 /\ InL r S w m lv l := by
 constructor
 ·intro h
  rw [In] at h
  obtain ⟨a, cap, h1, h2, h3, h4, h6⟩ := h
  exact ⟨_, h1, h2, h3, h4, a, cap, rfl, h6⟩
 ·rintro ⟨lv, h1, h2, h3, h4, a, cap, rfl, h6⟩
  rw [In]
  exact ⟨a, cap, h1, h2, h3, h4, h6⟩
theorem Keep.four {S : Nat -> Prop} {w w' : World} (h : Keep S w w') {g o : Nat} {v : Value} (hS : S g) (hc : Four w g o v) : Four w' g o v := by
 obtain ⟨v0, v1, v2, v3, rfl, c0, c1, c2, c3⟩ := hc
 exact ⟨v0, v1, v2, v3, rfl, h.cell hS c0, h.cell hS c1, h.cell hS c2, h.cell hS c3⟩
theorem InL.keep_of {r : Bool} {S : Nat -> Prop} {w w' : World} {m : Nat} (ih : ∀ (v : Value) (c : Ex), In r S w m v c -> In r S w' m v c) {v : Value} {l : List Ex} (h : InL r S w m v l) (hk : Keep S w w') : InL r S w' m v l := by
 obtain ⟨a, cap, h1, h2, h3, h4, h5, h6⟩ := h
 refine ⟨a, cap, h1, h2, h3, h4, h5, ?_⟩
 rcases h6 with h6 | ⟨g, o, ha, hS, hc, hr⟩
 ·exact .inl h6
 ·refine .inr ⟨g, o, ha, hS, fun j hj => ?_, fun hr' => ⟨(hr hr').1, Keep.four hk hS (hr hr').2.1, Keep.four hk hS (hr hr').2.2⟩⟩
  obtain ⟨u, hu, hi⟩ := hc j hj
  exact ⟨u, Keep.four hk hS hu, ih _ _ hi⟩
theorem In.keep {r : Bool} {S : Nat -> Prop} {w w' : World} (hk : Keep S w w') : ∀ {m : Nat} {v : Value} {c : Ex}, In r S w m v c -> In r S w' m v c := by
 intro m
 induction m with
 | zero => intro v c h; rw [In] at h; exact h.elim
 | succ m ih =>
  intro v c h
  obtain ⟨k, i, s, l⟩ := c
  rw [in_iff] at h ⊢
  obtain ⟨lv, h1, h3, h4, h5, h6⟩ := h
  exact ⟨lv, h1, h3, h4, h5, h6.keep_of (fun v c => ih) hk⟩
theorem InL.keep {r : Bool} {S : Nat -> Prop} {w w' : World} {m : Nat} {v : Value} {l : List Ex} (h : InL r S w m v l) (hk : Keep S w w') : InL r S w' m v l := h.keep_of (fun v c h => h.keep hk) hk
theorem In.below {r : Bool} {S : Nat -> Prop} {w w' : World} {m : Nat} {v : Value} {c : Ex} (h : In r S w m v c) (hk : Below w.heap.size w w') : In r S w' m v c := h.keep (.of_below hk)
theorem InL.weak_of {r : Bool} {S S' : Nat -> Prop} {w : World} {m m' : Nat} {v : Value} {l : List Ex} (hS : ∀ b, S b -> S' b) (r' : Bool) (hr : r' = true -> r = true) (ih : ∀ (v : Value) (c : Ex), In r S w m v c -> In r' S' w m' v c)
  (h : InL r S w m v l) : InL r' S' w m' v l := by
 obtain ⟨a, cap, h1, h2, h3, h4, h5, h6⟩ := h
 refine ⟨a, cap, h1, h2, h3, h4, h5, ?_⟩
 rcases h6 with ⟨h7, h8⟩ | ⟨g, o, ha, hg, hc, hr0⟩
 ·refine .inl ⟨h7, ?_⟩
  cases r' with
  | true => rw [hr rfl] at h8; cases h8
  | false => rfl
 ·refine .inr ⟨g, o, ha, hS _ hg, fun j hj => ?_, fun h => hr0 (hr h)⟩
  obtain ⟨u, hu, hi⟩ := hc j hj
  exact ⟨u, hu, ih _ _ hi⟩
theorem In.weak {r : Bool} {S S' : Nat -> Prop} {w : World} (hS : ∀ b, S b -> S' b) (r' : Bool) (hr : r' = true -> r = true) : ∀ {m : Nat} (m' : Nat) {v : Value} {c : Ex}, m <= m' -> In r S w m v c -> In r' S' w m' v c := by
 intro m
 induction m with
 | zero => intro m' v c _ h; rw [In] at h; exact h.elim
 | succ m ih =>
  intro m' v c hm h
  obtain ⟨m', rfl⟩ : ∃ q, m' = q + 1 := ⟨m' - 1, by omega⟩
  obtain ⟨k, i, s, l⟩ := c
  rw [in_iff] at h ⊢
  obtain ⟨lv, h1, h3, h4, h5, h6⟩ := h
  exact ⟨lv, h1, h3, h4, h5, h6.weak_of hS r' hr (fun v c h => ih m' (by omega) h)⟩
theorem InL.weak {r : Bool} {S S' : Nat -> Prop} {w : World} (hS : ∀ b, S b -> S' b) (r' : Bool) (hr : r' = true -> r = true) {m : Nat} (m' : Nat) {v : Value} {l : List Ex} (hm : m <= m') (h : InL r S w m v l) : InL r' S' w m' v l :=
 h.weak_of hS r' hr (fun v c h => h.weak hS r' hr m' hm)
theorem four_box {w : World} {B : Nat} {v0 v1 v2 v3 : Value} {t : TypeId} (h : w.heap[B]? = some (.cells #[v0, v1, v2, v3] t (0, 0))) :
  w.cell? ⟨B, 0, none⟩ = some v0 /\ w.cell? ⟨B, 1, none⟩ = some v1 /\ w.cell? ⟨B, 2, none⟩ = some v2 /\ w.cell? ⟨B, 3, none⟩ = some v3 := by
 refine ⟨?_, ?_, ?_, ?_⟩ <;> simp [World.cell?, h]
theorem frozen_box {w : World} {B : Nat} {vs : Array Value} {t : TypeId} (h : w.heap[B]? = some (.cells vs t (0, 0))) (j : Nat) : w.frozen? ⟨B, j, none⟩ = false := by
 simp [World.frozen?, h]
theorem elem_at {r : Bool} {S : Nat -> Prop} {w : World} {m : Nat} {a : Option Addr} {cap : Nat} {l : List Ex} (hL : LAt r S w m a cap l) {q : Nat} (h : q < l.length) :
  ∃ g o u, a = some ⟨g, o, none⟩ /\ S g /\ Four w g (o + q * 4) u /\ In r S w m u l[q] := by
 rcases hL with ⟨rfl, _⟩ | ⟨g, o, ha, hS, hc, _⟩
 ·simp at h
 ·obtain ⟨u, hu, hi⟩ := hc q h
  exact ⟨g, o, u, ha, hS, hu, hi⟩
theorem In.shape {r : Bool} {S : Nat -> Prop} {w : World} {m : Nat} {v : Value} {c : Ex} (h : In r S w m v c) :
  ∃ m' lv, m = m' + 1 /\ v = .agg #[.int .i64 c.o, .int .i64 c.i, .string c.s, lv] /\ (-9223372036854775808 <= c.o /\ c.o <= 9223372036854775807) /\ (-9223372036854775808 <= c.i /\ c.i <= 9223372036854775807) /\ c.s.size <= 140737488351232 /\ InL r S w m' lv c.l := by
 cases m with
 | zero => rw [In] at h; exact h.elim
 | succ m =>
  obtain ⟨k, i, s, l⟩ := c
  rw [in_iff] at h
  obtain ⟨lv, h⟩ := h
  exact ⟨m, lv, rfl, h⟩
theorem In.kinds {r : Bool} {S : Nat -> Prop} {w : World} {m : Nat} {x0 x1 x2 x3 : Value} {c : Ex} (h : In r S w m (.agg #[x0, x1, x2, x3]) c) :
  ∃ m' a2 c2, m = m' + 1 /\ x0 = .int .i64 c.o /\ x1 = .int .i64 c.i /\ x2 = .string c.s /\ x3 = .slice a2 c.l.length c2 /\ (-9223372036854775808 <= c.o /\ c.o <= 9223372036854775807) /\ (-9223372036854775808 <= c.i /\ c.i <= 9223372036854775807) /\ c.s.size <= 140737488351232 /\ InL r S w m' (.slice a2 c.l.length c2) c.l := by
 obtain ⟨m', lv, hm, e, ho, hi, hs, hl⟩ := h.shape
 simp only [Value.agg.injEq, Array.mk.injEq, List.cons.injEq, and_true] at e
 obtain ⟨rfl, rfl, rfl, rfl⟩ := e
 have hl0 := hl
 obtain ⟨a2, c2, rfl, -⟩ := hl
 exact ⟨m', a2, c2, hm, rfl, rfl, rfl, rfl, ho, hi, hs, hl0⟩
theorem In.leaf (w : World) (m : Nat) (S : Nat -> Prop) (k i : Int) (s : ByteArray) (hk : -9223372036854775808 <= k /\ k <= 9223372036854775807) (hi : -9223372036854775808 <= i /\ i <= 9223372036854775807) (hs : s.size <= 140737488351232) :
  In false S w (m + 1) (.agg #[.int .i64 k, .int .i64 i, .string s, .slice none 0 0]) (.mk k i s []) := by
 rw [in_iff]
 exact ⟨_, rfl, hk, hi, hs, none, 0, rfl, by simp, by simp, by simp, fun _ => rfl, .inl ⟨rfl, rfl⟩⟩
end Go.Proofs.YtiijfmdfccdagaaGreatDoor.XBase
namespace Go.Proofs.YtiijfmdfccdagaaGreatDoor.VRs
open Go.RowKit Base VPure VSm Sums
def VR (K m : Nat) (w : World) (a : Ans) (e : Ending) (w' : World) : Prop := Below w.heap.size w w' /\ match a with
 | .ok c => ∃ u, e = .returned u /\ Base.In false (fun b => b < K) w' m u c
 | .error n => e = .panicked (pkE n)
theorem in_low {K m : Nat} {w w' : World} {u : Value} {c : C} (h : Base.In false (fun b => b < K) w m u c) (hb : Below K w w') : Base.In false (fun b => b < K) w' m u c := h.keep fun b hb' _ => hb.block b hb'
theorem in_v0 (S : Nat -> Prop) (w : World) (m : Nat) {k i : Int} (b : Bool) {s : ByteArray} (hk : -9223372036854775808 <= k /\ k <= 9223372036854775807) (hi : -9223372036854775808 <= i /\ i <= 9223372036854775807) (hs : s.size <= 140737488351232) :
  Base.In false S w (m + 1) (v0 k b i s) (.mk k b i s [] []) := by
 rw [Base.in_iff]
 refine ⟨_, _, rfl, hk, hi, hs, ⟨none, 0, rfl, Nat.le_refl _, Nat.zero_le _, by simp, by simp, fun _ => rfl, .inl ⟨rfl, rfl⟩⟩, none, 0, rfl, Nat.le_refl _, Nat.zero_le _, by simp, fun _ => rfl, .inl ⟨rfl, rfl⟩⟩
theorem in_int (S : Nat -> Prop) (w : World) (m : Nat) {i : Int} (hi : -9223372036854775808 <= i /\ i <= 9223372036854775807) : Base.In false S w (m + 1) (v0 3 false i ⟨#[]⟩) (intC i) := in_v0 S w m false (by omega) hi (by decide)
theorem in_boo (S : Nat -> Prop) (w : World) (m : Nat) (b : Bool) : Base.In false S w (m + 1) (v0 2 b 0 ⟨#[]⟩) (booC b) := in_v0 S w m b (by omega) (by omega) (by decide)
theorem in_str (S : Nat -> Prop) (w : World) (m : Nat) {s : ByteArray} (hs : s.size <= 140737488351232) : Base.In false S w (m + 1) (v0 4 false 0 s) (strC s) := in_v0 S w m false (by omega) (by omega) hs
theorem in_nul (S : Nat -> Prop) (w : World) (m : Nat) : Base.In false S w (m + 1) (v0 1 false 0 ⟨#[]⟩) nulC := in_v0 S w m false (by omega) (by omega) (by decide)
theorem in_zer (S : Nat -> Prop) (w : World) (m : Nat) : Base.In false S w (m + 1) (v0 0 false 0 ⟨#[]⟩) zerC := in_v0 S w m false (by omega) (by omega) (by decide)
theorem wh_rng {o x y : Int} (hx : -9223372036854775808 <= x /\ x <= 9223372036854775807) : -9223372036854775808 <= (wh o x y).1 /\ (wh o x y).1 <= 9223372036854775807 := by
 unfold wh
 have hn : ∀ z : Int, -9223372036854775808 <= num z /\ num z <= 9223372036854775807 := fun z => ⟨num_ge z, num_le z⟩
 repeat' split
 all_goals first
  | exact hn _
  | (unfold WhA.dnum; split; (omega); exact hn _)
  | (unfold WhA.mnum; split; (omega); exact WhA.tmod_range _ hx.1 hx.2)
  | exact WhA.div_range hx.1 hx.2 (Int.pow_pos (by omega))
  | (exact ⟨by omega, by omega⟩)
theorem an_vr {K m : Nat} {w w' : World} {e : Ending} {a : Except Nat Int} (hr : ∀ c, a = .ok c -> -9223372036854775808 <= c /\ c <= 9223372036854775807) (h : An w w' e (fun c : Int => v0 3 false c ⟨#[]⟩) a) : VR K (m + 1) w (mapI a) e w' := by
 cases a with
 | error n => exact ⟨h.2, h.1⟩
 | ok c => exact ⟨h.2, _, h.1, in_int _ w' m (hr c rfl)⟩
theorem tw_ok {k1 k2 x e0 c : Int} (h : twI k1 k2 x e0 = .ok c) : c = x := by
 unfold twI chkI at h
 repeat' split at h
 all_goals first | (injection h with h; exact h.symm) | (cases h)
theorem in_shape {S : Nat -> Prop} {w : World} {m : Nat} {u : Value} {c : C} (h : Base.In false S w m u c) : ∃ an ln cn al ll cl, u = vl c.k c.b c.i c.s (.slice an ln cn) (.slice al ll cl) := by
 obtain ⟨m', nv, lv, -, hu, -, -, -, hn, hl⟩ := h.shape
 obtain ⟨an, cn, rfl, -⟩ := hn
 obtain ⟨al, cl, rfl, -⟩ := hl
 exact ⟨an, _, cn, al, _, cl, hu⟩
theorem in_rng {S : Nat -> Prop} {w : World} {m : Nat} {u : Value} {c : C} (h : Base.In false S w m u c) : -9223372036854775808 <= c.i /\ c.i <= 9223372036854775807 := by
 obtain ⟨m', nv, lv, -, hu, -, hi, -, -, -⟩ := h.shape
 exact hi
end Go.Proofs.YtiijfmdfccdagaaGreatDoor.VRs
namespace Go.Proofs.YtiijfmdfccdagaaGreatDoor.USmall
open Go.ChangeShapes Go.WideShapes Go.ChangeAt Go.RowKit UBase
theorem letter_c (c : Int) (n : Nat) (h : c = n) (w : World) :
  Calls prog 187 #[.int .u8 c] w fun r w' => r = .returned (.bool (let' n)) /\ w' = w := by
 subst h
 go_enter func187, ntmps187
 go_wp2
 ·have h : (97 : Int) <= n := by assumption
  go_ret
  have e : let' n = decide ((n : Int) <= 122) := by unfold let'; simp only [decide_eq_true (show 97 <= n by omega), Bool.true_and]; exact decide_eq_decide.mpr (by omega)
  rw [e]
  exact ⟨rfl, rfl⟩
 ·have h : (n : Int) < 97 := by assumption
  go_ret
  have e : let' n = false := by unfold let'; simp; omega
  rw [e]
  exact ⟨rfl, rfl⟩
theorem digit_c (c : Int) (n : Nat) (h : c = n) (w : World) :
  Calls prog 188 #[.int .u8 c] w fun r w' => r = .returned (.bool (dig n)) /\ w' = w := by
 subst h
 go_enter func188, ntmps188
 go_wp2
 ·have h : (48 : Int) <= n := by assumption
  go_ret
  have e : dig n = decide ((n : Int) <= 57) := by unfold dig; simp only [decide_eq_true (show 48 <= n by omega), Bool.true_and]; exact decide_eq_decide.mpr (by omega)
  rw [e]
  exact ⟨rfl, rfl⟩
 ·have h : (n : Int) < 48 := by assumption
  go_ret
  have e : dig n = false := by unfold dig; simp; omega
  rw [e]
  exact ⟨rfl, rfl⟩
theorem at_list (s : ByteArray) (i : Nat) : at' s i = ((s.data.toList)[i]?.getD 0).toNat := by
 by_cases h : i < s.size
 ·have hl : i < s.data.toList.length := by rw [Array.length_toList]; exact h
  rw [at_get s i h, List.getElem?_eq_getElem hl, Array.getElem_toList]
  rfl
 ·have hl : s.data.toList.length <= i := by rw [Array.length_toList]; exact Nat.le_of_not_lt h
  rw [at_out s i h, List.getElem?_eq_none hl]
  rfl
theorem rep_list (d : ByteArray) (h3 : 3 <= d.size) : ((d.extract 0 3).toList == [239, 191, 189]) = rep d 0 := by
 rw [ByteArray.toList_eq, ByteArray.data_extract, Array.toList_extract]
 unfold rep
 rw [at_list d 0, at_list d (0 + 1), at_list d (0 + 2)]
 have hl : d.data.toList.length = d.size := Array.length_toList
 generalize d.data.toList = L at *
 match L, hl with
 | x :: y :: z :: r, _ =>
  rw [Bool.eq_iff_iff]
  simp [<- UInt8.toNat_inj]
 | [], hl => simp at hl; omega
 | [_], hl => simp at hl; omega
 | [_, _], hl => simp at hl; omega
theorem pre_long (d : ByteArray) (h : d.size <= 9223372036854775807) (h3 : 3 <= d.size) (w : World) :
  Calls prog 181 #[.string d, .string ⟨#[239, 191, 189]⟩] w fun r w' => r = .returned (.bool (rep d 0)) /\ w' = w := by
 rw [<- rep_list d h3]
 go_enter func181, ntmps181
 go_wp2
 go_ret
 exact ⟨rfl, rfl⟩
theorem pre_short (d : ByteArray) (h3 : ¬ 3 <= d.size) (w : World) :
  Calls prog 181 #[.string d, .string ⟨#[239, 191, 189]⟩] w fun r w' => r = .returned (.bool (rep d 0)) /\ w' = w := by
 have e : rep d 0 = false := by unfold rep; rw [at_out d (0 + 2) (by omega)]; simp
 rw [e]
 go_enter func181, ntmps181
 go_wp2
 go_ret
 exact ⟨rfl, rfl⟩
theorem pre_c (d : ByteArray) (h : d.size <= 9223372036854775807) (w : World) :
  Calls prog 117 #[.string d] w fun r w' => r = .returned (.bool (rep d 0)) /\ w' = w := by
 have c26 : ∀ w, Calls prog 181 #[.string d, .string ⟨#[239, 191, 189]⟩] w fun r w' => r = .returned (.bool (rep d 0)) /\ w' = w := fun w => by
  by_cases h3 : 3 <= d.size
  ·exact pre_long d h h3 w
  ·exact pre_short d h3 w
 have c23 : ∀ w, Calls prog 157 #[.string d, .string ⟨#[239, 191, 189]⟩] w fun r w' => r = .returned (.bool (rep d 0)) /\ w' = w := fun w => by
  go_enter func157, ntmps157
  go_wp2_with (first | (go_at_call 181; refine (c26 _).mono ?_; rintro e w' ⟨rfl, rfl⟩))
  go_ret
  exact ⟨rfl, rfl⟩
 go_enter func117, ntmps117
 go_wp2_with (first | (go_at_call 157; refine (c23 _).mono ?_; rintro e w' ⟨rfl, rfl⟩))
 go_ret
 exact ⟨rfl, rfl⟩
end Go.Proofs.YtiijfmdfccdagaaGreatDoor.USmall

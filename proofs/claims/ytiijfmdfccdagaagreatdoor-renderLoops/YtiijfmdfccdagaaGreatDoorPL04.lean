import Derived.Deep.CutRange
import Derived.Deep.RegionHeld3
import Derived.Deep.RegionWith
import Derived.Laws.ResultCell
import Derived.LoopN
import Derived.LoopTactic
import Derived.Maps.AppendAt
import Derived.Test.YtiijfmdfccdagaaGreatDoorPL00
import Derived.Test.YtiijfmdfccdagaaGreatDoorPL01
import Derived.Test.YtiijfmdfccdagaaGreatDoorPL02
import Derived.Test.YtiijfmdfccdagaaGreatDoorPL03
open Go.Proofs.Tryz
set_option linter.unusedVariables false
set_option maxRecDepth 20000
set_option maxHeartbeats 3200000
namespace Go.Proofs.YtiijfmdfccdagaaGreatDoor.VSm
open Go.RowKit Base
def pkE (c : Nat) : List PanicEntry := [{ v := .iface 30 (.int .i64 (c : Nat)), recovered := false }]
abbrev vl (k : Int) (b : Bool) (i : Int) (s : ByteArray) (nv lv : Value) : Value := .agg #[.int .i64 k, .bool b, .int .i64 i, .string s, nv, lv]
abbrev v0 (k : Int) (b : Bool) (i : Int) (s : ByteArray) : Value := vl k b i s (.slice none 0 0) (.slice none 0 0)
theorem two2 (w : World) (c1 c2 : Array Value) : ∃ W0, (w.alloc (.cells c1 26)).alloc (.cells c2 26) = W0 /\ W0.heap.size = w.heap.size + 2 /\ Below w.heap.size w W0 /\ W0.heap[w.heap.size]? = some (.cells c1 26 (0, 0)) /\ W0.heap[w.heap.size + 1]? = some (.cells c2 26 (0, 0)) := by
 refine ⟨_, rfl, by simp, ((Below.refl _ w).alloc (Nat.le_refl _) _).alloc (by simp) _, ?_, ?_⟩
 ·rw [Below.heap_alloc _ _ _ (by simp), heap_alloc_new]
 ·have := heap_alloc_new (w.alloc (.cells c1 26)) (.cells c2 26)
  rw [World.size_alloc] at this
  exact this
theorem two3 (w : World) (c1 c2 : Array Value) : ∃ W0, ((w.alloc (.cells c1 26)).alloc (.cells c2 26)).alloc (.cells #[.int .i64 0, .bool false, .int .i64 0, .string ⟨#[]⟩, .slice none 0 0, .slice none 0 0] 26) = W0 /\ W0.heap.size = w.heap.size + 3 /\ Below w.heap.size w W0 /\ W0.heap[w.heap.size]? = some (.cells c1 26 (0, 0)) /\ W0.heap[w.heap.size + 1]? = some (.cells c2 26 (0, 0)) /\ W0.heap[w.heap.size + 2]? = some (.cells #[.int .i64 0, .bool false, .int .i64 0, .string ⟨#[]⟩, .slice none 0 0, .slice none 0 0] 26 (0, 0)) := by
 obtain ⟨W1, h1, h2, h3, h4, h5⟩ := two2 w c1 c2
 rw [h1]
 refine ⟨_, rfl, by simp [h2], h3.alloc (by omega) _, ?_, ?_, ?_⟩
 ·rw [Below.heap_alloc _ _ _ (by omega)]; exact h4
 ·rw [Below.heap_alloc _ _ _ (by omega)]; exact h5
 ·rw [<- h2]; exact heap_alloc_new _ _
theorem three (w : World) (c1 c2 : Array Value) (T1 T2 : TypeId) : ∃ W0, ((w.alloc (.cells c1 T1)).alloc (.cells c2 T2)).alloc (.cells #[.int .i64 0, .bool false, .int .i64 0, .string ⟨#[]⟩, .slice none 0 0, .slice none 0 0] 26) = W0 /\ W0.heap.size = w.heap.size + 3 /\ Below w.heap.size w W0 /\ W0.heap[w.heap.size]? = some (.cells c1 T1 (0, 0)) /\ W0.heap[w.heap.size + 1]? = some (.cells c2 T2 (0, 0)) /\ W0.heap[w.heap.size + 2]? = some (.cells #[.int .i64 0, .bool false, .int .i64 0, .string ⟨#[]⟩, .slice none 0 0, .slice none 0 0] 26 (0, 0)) := by
 refine ⟨_, rfl, by simp, (((Below.refl _ w).alloc (Nat.le_refl _) _).alloc (by simp) _).alloc (by simp; omega) _, ?_, ?_, ?_⟩
 ·rw [Below.heap_alloc _ _ _ (by simp; omega), Below.heap_alloc _ _ _ (by simp), heap_alloc_new]
 ·have := heap_alloc_new (w.alloc (.cells c1 T1)) (.cells c2 T2)
  rw [World.size_alloc] at this
  rw [Below.heap_alloc _ _ _ (by simp)]
  exact this
 ·have := heap_alloc_new ((w.alloc (.cells c1 T1)).alloc (.cells c2 T2)) (.cells #[.int .i64 0, .bool false, .int .i64 0, .string ⟨#[]⟩, .slice none 0 0, .slice none 0 0] 26)
  rw [World.size_alloc, World.size_alloc] at this
  exact this
theorem truth_c (b : Bool) (w : World) : Calls prog 88 #[.bool b] w fun e w' => e = .returned (v0 2 b 0 ⟨#[]⟩) /\ Below w.heap.size w w' := by
 have hr : (w.alloc (.cells #[.int .i64 0, .bool false, .int .i64 0, .string ⟨#[]⟩, .slice none 0 0, .slice none 0 0] 26)).heap[w.heap.size]? = some (.cells #[.int .i64 0, .bool false, .int .i64 0, .string ⟨#[]⟩, .slice none 0 0, .slice none 0 0] 26 (0, 0)) := heap_alloc_new w _
 have hb0 : Below w.heap.size w (w.alloc (.cells #[.int .i64 0, .bool false, .int .i64 0, .string ⟨#[]⟩, .slice none 0 0, .slice none 0 0] 26)) := (Below.refl _ w).alloc (Nat.le_refl _) _
 obtain ⟨W0, hW0⟩ : ∃ W0, w.alloc (.cells #[.int .i64 0, .bool false, .int .i64 0, .string ⟨#[]⟩, .slice none 0 0, .slice none 0 0] 26) = W0 := ⟨_, rfl⟩
 rw [hW0] at hr hb0
 obtain ⟨r0, r1, r2, r3, r4, r5⟩ := six_box hr
 obtain ⟨rf0, rf1, rf2, rf3, rf4, rf5⟩ := Base.frz6 hr
 go_enter func88, ntmps88
 go_wp2_with fail
 obtain ⟨W9, hW9⟩ := stc6 W0 w.heap.size (.int .i64 2) (.bool b) (.int .i64 0) (.string ⟨#[]⟩) (.slice none 0 0) (.slice none 0 0)
 rw [hW9]
 obtain ⟨q1, q2, q3, q4⟩ := set6 _ _ _ _ _ _ hr hW9
 refine bodyPost_ret (results_cell_row rfl _ W9 (w.heap.size) 26 _ (0, 0) _ rfl q1 underlying26 rfl (by kernel_rfl)) rfl ?_
 exact ⟨rfl, q4 _ _ (Nat.le_refl _) hb0⟩
theorem number_c (i : Int) (w : World) : Calls prog 89 #[.int .i64 i] w fun e w' => e = .returned (v0 3 false i ⟨#[]⟩) /\ Below w.heap.size w w' := by
 have hr : (w.alloc (.cells #[.int .i64 0, .bool false, .int .i64 0, .string ⟨#[]⟩, .slice none 0 0, .slice none 0 0] 26)).heap[w.heap.size]? = some (.cells #[.int .i64 0, .bool false, .int .i64 0, .string ⟨#[]⟩, .slice none 0 0, .slice none 0 0] 26 (0, 0)) := heap_alloc_new w _
 have hb0 : Below w.heap.size w (w.alloc (.cells #[.int .i64 0, .bool false, .int .i64 0, .string ⟨#[]⟩, .slice none 0 0, .slice none 0 0] 26)) := (Below.refl _ w).alloc (Nat.le_refl _) _
 obtain ⟨W0, hW0⟩ : ∃ W0, w.alloc (.cells #[.int .i64 0, .bool false, .int .i64 0, .string ⟨#[]⟩, .slice none 0 0, .slice none 0 0] 26) = W0 := ⟨_, rfl⟩
 rw [hW0] at hr hb0
 obtain ⟨r0, r1, r2, r3, r4, r5⟩ := six_box hr
 obtain ⟨rf0, rf1, rf2, rf3, rf4, rf5⟩ := Base.frz6 hr
 go_enter func89, ntmps89
 go_wp2_with fail
 obtain ⟨W9, hW9⟩ := stc6 W0 w.heap.size (.int .i64 3) (.bool false) (.int .i64 i) (.string ⟨#[]⟩) (.slice none 0 0) (.slice none 0 0)
 rw [hW9]
 obtain ⟨q1, q2, q3, q4⟩ := set6 _ _ _ _ _ _ hr hW9
 refine bodyPost_ret (results_cell_row rfl _ W9 (w.heap.size) 26 _ (0, 0) _ rfl q1 underlying26 rfl (by kernel_rfl)) rfl ?_
 exact ⟨rfl, q4 _ _ (Nat.le_refl _) hb0⟩
theorem text_c (s : ByteArray) (w : World) : Calls prog 90 #[.string s] w fun e w' => e = .returned (v0 4 false 0 s) /\ Below w.heap.size w w' := by
 have hr : (w.alloc (.cells #[.int .i64 0, .bool false, .int .i64 0, .string ⟨#[]⟩, .slice none 0 0, .slice none 0 0] 26)).heap[w.heap.size]? = some (.cells #[.int .i64 0, .bool false, .int .i64 0, .string ⟨#[]⟩, .slice none 0 0, .slice none 0 0] 26 (0, 0)) := heap_alloc_new w _
 have hb0 : Below w.heap.size w (w.alloc (.cells #[.int .i64 0, .bool false, .int .i64 0, .string ⟨#[]⟩, .slice none 0 0, .slice none 0 0] 26)) := (Below.refl _ w).alloc (Nat.le_refl _) _
 obtain ⟨W0, hW0⟩ : ∃ W0, w.alloc (.cells #[.int .i64 0, .bool false, .int .i64 0, .string ⟨#[]⟩, .slice none 0 0, .slice none 0 0] 26) = W0 := ⟨_, rfl⟩
 rw [hW0] at hr hb0
 obtain ⟨r0, r1, r2, r3, r4, r5⟩ := six_box hr
 obtain ⟨rf0, rf1, rf2, rf3, rf4, rf5⟩ := Base.frz6 hr
 go_enter func90, ntmps90
 go_wp2_with fail
 obtain ⟨W9, hW9⟩ := stc6 W0 w.heap.size (.int .i64 4) (.bool false) (.int .i64 0) (.string s) (.slice none 0 0) (.slice none 0 0)
 rw [hW9]
 obtain ⟨q1, q2, q3, q4⟩ := set6 _ _ _ _ _ _ hr hW9
 refine bodyPost_ret (results_cell_row rfl _ W9 (w.heap.size) 26 _ (0, 0) _ rfl q1 underlying26 rfl (by kernel_rfl)) rfl ?_
 exact ⟨rfl, q4 _ _ (Nat.le_refl _) hb0⟩
theorem must_t (w : World) : Calls prog 158 #[.bool true] w fun e w' => (∃ v, e = .returned v) /\ w' = w := by
 go_enter func158, ntmps158
 go_wp2_with fail
 go_end0
 exact ⟨⟨_, rfl⟩, rfl⟩
theorem must_f (w : World) : Calls prog 158 #[.bool false] w fun e w' => e = .panicked (pkE 1101) /\ w' = w := by
 unfold pkE
 go_enter func158, ntmps158
 go_wp2_with fail
 exact ⟨rfl, rfl, rfl⟩
def An {α : Type} (w w' : World) (e : Ending) (f : α -> Value) : Except Nat α -> Prop
 | .ok x => e = .returned (f x) /\ Below w.heap.size w w'
 | .error c => e = .panicked (pkE c) /\ Below w.heap.size w w'
theorem isTrue_c (k : Int) (b : Bool) (i : Int) (s : ByteArray) (nv lv : Value) (w : World) : Calls prog 118 #[vl k b i s nv lv] w fun e w' => An w w' e (Value.bool) (if k = 2 then .ok b else .error 1101) := by
 have hp : (w.alloc (.cells #[.int .i64 k, .bool b, .int .i64 i, .string s, nv, lv] 26)).heap[w.heap.size]? = some (.cells #[.int .i64 k, .bool b, .int .i64 i, .string s, nv, lv] 26 (0, 0)) := heap_alloc_new w _
 have hb0 : Below w.heap.size w (w.alloc (.cells #[.int .i64 k, .bool b, .int .i64 i, .string s, nv, lv] 26)) := (Below.refl _ w).alloc (Nat.le_refl _) _
 obtain ⟨W0, hW0⟩ : ∃ W0, w.alloc (.cells #[.int .i64 k, .bool b, .int .i64 i, .string s, nv, lv] 26) = W0 := ⟨_, rfl⟩
 rw [hW0] at hp hb0
 obtain ⟨p0, p1, p2, p3, p4, p5⟩ := six_box hp
 by_cases h : k = 2
 ·subst h
  rw [if_pos rfl]
  have c := must_t W0
  have HB := hid hb0
  clear hb0 hp
  go_enter func118, ntmps118
  go_wp2_with fail
  try rw [hW0]
  refine c.mono ?_
  rintro e w' ⟨⟨v, rfl⟩, rfl⟩
  go_wp2_with fail
  go_ret
  exact ⟨rfl, HB.out⟩
 ·rw [if_neg h]
  have d : (k == 2) = false := by simp [h]
  have c := must_f W0
  have HB := hid hb0
  clear hb0 hp h
  go_enter func118, ntmps118
  go_wp2_with fail
  try rw [hW0]
  refine c.mono ?_
  rintro e w' ⟨rfl, rfl⟩
  exact ⟨rfl, rfl, HB.out⟩
theorem integer_c (k : Int) (b : Bool) (i : Int) (s : ByteArray) (nv lv : Value) (w : World) : Calls prog 159 #[vl k b i s nv lv] w fun e w' => An w w' e (Value.int .i64) (if k = 3 then .ok i else .error 1101) := by
 have hp : (w.alloc (.cells #[.int .i64 k, .bool b, .int .i64 i, .string s, nv, lv] 26)).heap[w.heap.size]? = some (.cells #[.int .i64 k, .bool b, .int .i64 i, .string s, nv, lv] 26 (0, 0)) := heap_alloc_new w _
 have hb0 : Below w.heap.size w (w.alloc (.cells #[.int .i64 k, .bool b, .int .i64 i, .string s, nv, lv] 26)) := (Below.refl _ w).alloc (Nat.le_refl _) _
 obtain ⟨W0, hW0⟩ : ∃ W0, w.alloc (.cells #[.int .i64 k, .bool b, .int .i64 i, .string s, nv, lv] 26) = W0 := ⟨_, rfl⟩
 rw [hW0] at hp hb0
 obtain ⟨p0, p1, p2, p3, p4, p5⟩ := six_box hp
 by_cases h : k = 3
 ·subst h
  rw [if_pos rfl]
  have c := must_t W0
  have HB := hid hb0
  clear hb0 hp
  go_enter func159, ntmps159
  go_wp2_with fail
  try rw [hW0]
  refine c.mono ?_
  rintro e w' ⟨⟨v, rfl⟩, rfl⟩
  go_wp2_with fail
  go_ret
  exact ⟨rfl, HB.out⟩
 ·rw [if_neg h]
  have d : (k == 3) = false := by simp [h]
  have c := must_f W0
  have HB := hid hb0
  clear hb0 hp h
  go_enter func159, ntmps159
  go_wp2_with fail
  try rw [hW0]
  refine c.mono ?_
  rintro e w' ⟨rfl, rfl⟩
  exact ⟨rfl, rfl, HB.out⟩
theorem checked_c (x e0 : Int) (w : World) : Calls prog 121 #[.int .i64 x, .int .i64 e0] w fun e w' => An w w' e (fun c : Int => v0 3 false c ⟨#[]⟩) (if e0 = 100 then .error 1102 else if e0 = 101 then .error 1103 else if e0 = 102 then .error 1104 else .ok x) := by
 have hr : (w.alloc (.cells #[.int .i64 0, .bool false, .int .i64 0, .string ⟨#[]⟩, .slice none 0 0, .slice none 0 0] 26)).heap[w.heap.size]? = some (.cells #[.int .i64 0, .bool false, .int .i64 0, .string ⟨#[]⟩, .slice none 0 0, .slice none 0 0] 26 (0, 0)) := heap_alloc_new w _
 have hb0 : Below w.heap.size w (w.alloc (.cells #[.int .i64 0, .bool false, .int .i64 0, .string ⟨#[]⟩, .slice none 0 0, .slice none 0 0] 26)) := (Below.refl _ w).alloc (Nat.le_refl _) _
 have hs0 : (w.alloc (.cells #[.int .i64 0, .bool false, .int .i64 0, .string ⟨#[]⟩, .slice none 0 0, .slice none 0 0] 26)).heap.size = w.heap.size + 1 := by simp
 obtain ⟨W0, hW0⟩ : ∃ W0, w.alloc (.cells #[.int .i64 0, .bool false, .int .i64 0, .string ⟨#[]⟩, .slice none 0 0, .slice none 0 0] 26) = W0 := ⟨_, rfl⟩
 rw [hW0] at hr hb0 hs0
 by_cases h0 : e0 = 100
 ·subst h0
  rw [if_pos rfl]
  show Calls _ _ _ _ fun e w' => An w w' e _ (.error 1102)
  unfold An pkE
  have HB := hid hb0
  clear hb0 hr
  go_enter func121, ntmps121
  go_wp2_with fail
  try rw [hW0]
  exact ⟨rfl, rfl, HB.out⟩
 by_cases h1 : e0 = 101
 ·subst h1
  rw [if_neg (by decide)]
  rw [if_pos rfl]
  show Calls _ _ _ _ fun e w' => An w w' e _ (.error 1103)
  unfold An pkE
  have HB := hid hb0
  clear hb0 hr
  go_enter func121, ntmps121
  go_wp2_with fail
  try rw [hW0]
  exact ⟨rfl, rfl, HB.out⟩
 by_cases h2 : e0 = 102
 ·subst h2
  rw [if_neg (by decide)]
  rw [if_neg (by decide)]
  rw [if_pos rfl]
  show Calls _ _ _ _ fun e w' => An w w' e _ (.error 1104)
  unfold An pkE
  have HB := hid hb0
  clear hb0 hr
  go_enter func121, ntmps121
  go_wp2_with fail
  try rw [hW0]
  exact ⟨rfl, rfl, HB.out⟩
 rw [if_neg h0, if_neg h1, if_neg h2]
 have d0 : (e0 == 100) = false := by simp [h0]
 have d1 : (e0 == 101) = false := by simp [h1]
 have d2 : (e0 == 102) = false := by simp [h2]
 have c := number_c x W0
 have HR := hid hr
 have HB := hid hb0
 clear hb0 hr h0 h1 h2
 go_enter func121, ntmps121
 go_wp2_with fail
 try rw [hW0]
 refine c.mono ?_
 rintro e W1 ⟨rfl, hb1⟩
 have hr := (hb1.block w.heap.size (by omega)).trans HR.out
 have HB1 := hid (HB.out.trans (hb1.mono HB.out.size))
 clear hb1 c
 obtain ⟨r0, r1, r2, r3, r4, r5⟩ := six_box hr
 obtain ⟨rf0, rf1, rf2, rf3, rf4, rf5⟩ := Base.frz6 hr
 go_wp2_with fail
 obtain ⟨W9, hW9⟩ := stc6 W1 w.heap.size (.int .i64 3) (.bool false) (.int .i64 x) (.string ⟨#[]⟩) (.slice none 0 0) (.slice none 0 0)
 rw [hW9]
 obtain ⟨q1, q2, q3, q4⟩ := set6 _ _ _ _ _ _ hr hW9
 refine bodyPost_ret (results_cell_row rfl _ W9 (w.heap.size) 26 _ (0, 0) _ rfl q1 underlying26 rfl (by kernel_rfl)) rfl ?_
 exact ⟨rfl, q4 _ _ (Nat.le_refl _) HB1.out⟩
end Go.Proofs.YtiijfmdfccdagaaGreatDoor.VSm
namespace Go.Proofs.YtiijfmdfccdagaaGreatDoor.VIn
open Tak
open Go.RowKit Base VSm
theorem bel_d {w W0 W1 : World} (h : Below w.heap.size w W0) (k : Below W0.drew.heap.size W0.drew W1) : Below w.heap.size w W1 :=
 (⟨h.os, h.tape, h.output, h.size, h.block⟩ : Below w.heap.size w W0.drew).trans (k.mono h.size)
theorem integers_c (k1 : Int) (b1 : Bool) (i1 : Int) (s1 : ByteArray) (n1 l1 : Value) (k2 : Int) (b2 : Bool) (i2 : Int) (s2 : ByteArray) (n2 l2 : Value) (w : World) : Calls prog 123 #[vl k1 b1 i1 s1 n1 l1, vl k2 b2 i2 s2 n2 l2] w fun e w' => An w w' e (fun p : Int × Int => .tuple #[.int .i64 p.1, .int .i64 p.2]) (if k1 = 3 then (if k2 = 3 then .ok (i1, i2) else .error 1101) else .error 1101) := by
 obtain ⟨W0, hW0, hs0, hb0, hp, hq⟩ := two2 w #[.int .i64 k1, .bool b1, .int .i64 i1, .string s1, n1, l1] #[.int .i64 k2, .bool b2, .int .i64 i2, .string s2, n2, l2]
 have HP := hid hp
 have HQ := hid hq
 have HB := hid hb0
 have hsD : W0.drew.heap.size = w.heap.size + 2 := by simp [hs0]
 obtain ⟨p0, p1, p2, p3, p4, p5⟩ := six_box hp
 obtain ⟨q0, q1, q2, q3, q4, q5⟩ := six_box hq
 clear hp hq hb0
 have c1 := fun W => integer_c k1 b1 i1 s1 n1 l1 W
 have c2 := fun W => integer_c k2 b2 i2 s2 n2 l2 W
 by_cases h1 : k1 = 3
 ·rw [if_pos h1] at c1
  rw [if_pos h1]
  clear h1
  by_cases h2 : k2 = 3
  ·rw [if_pos h2] at c2
   rw [if_pos h2]
   clear h2
   go_enter func123, ntmps123
   go_wp2_with fail
   try rw [hW0]
   refine rh12 w.heap.size (w.heap.size + 1) k1 b1 i1 s1 n1 l1 k2 b2 i2 s2 n2 l2 (by kernel_rfl) (by first | assumption | go_keep) (fun hHeld => ?_)
   refine tkH 0 rfl ?_; try simp only [ptH]
   refine tkH 2 rfl ?_; try simp only [ptH]
   refine rdH [1] ?_
   refine alH rfl fun K hK => ?_
   go_simp
   refine (c1 _).mono ?_
   rintro e W1 ⟨rfl, hb1⟩
   have hp1 := (hb1.block w.heap.size (by rw [hsD]; omega)).trans HP.out
   have hq1 := (hb1.block (w.heap.size + 1) (by rw [hsD]; omega)).trans HQ.out
   obtain ⟨x0, x1, x2, x3, x4, x5⟩ := six_box hp1
   obtain ⟨y0, y1, y2, y3, y4, y5⟩ := six_box hq1
   have HB1 := hid (bel_d HB.out hb1)
   have HP1 := hid hp1
   have HQ1 := hid hq1
   have hs1 := hb1.size
   rw [hsD] at hs1
   clear hp1 hq1 hb1
   go_wp2_with fail
   refine hK.out _ _ (by first | assumption | go_keep) (fun hHeld => ?_)
   clear hK K
   try simp only [ptH]
   refine rdH [3] ?_
   refine alH rfl fun K hK => ?_
   go_simp
   refine (c2 _).mono ?_
   rintro e W2 ⟨rfl, hb2⟩
   obtain ⟨z0, z1, z2, z3, z4, z5⟩ := six_box ((hb2.block w.heap.size (by omega)).trans HP1.out)
   obtain ⟨t0, t1, t2, t3, t4, t5⟩ := six_box ((hb2.block (w.heap.size + 1) (by omega)).trans HQ1.out)
   have HB2 := hid (HB1.out.trans (hb2.mono HB1.out.size))
   clear hb2
   go_wp2_with fail
   refine hK.out _ _ (by first | assumption | go_keep) (fun hHeld => ?_)
   clear hK K
   try simp only [ptH]
   refine tkH 4 rfl ?_; try simp only [ptH]
   refine tkH 5 rfl ?_; try simp only [ptH]
   refine dnH ?_
   go_wp2_with fail
   go_ret2
   exact ⟨rfl, HB2.out⟩
  ·rw [if_neg h2] at c2
   rw [if_neg h2]
   clear h2
   go_enter func123, ntmps123
   go_wp2_with fail
   try rw [hW0]
   refine rh12 w.heap.size (w.heap.size + 1) k1 b1 i1 s1 n1 l1 k2 b2 i2 s2 n2 l2 (by kernel_rfl) (by first | assumption | go_keep) (fun hHeld => ?_)
   refine tkH 0 rfl ?_; try simp only [ptH]
   refine tkH 2 rfl ?_; try simp only [ptH]
   refine rdH [1] ?_
   refine alH rfl fun K hK => ?_
   go_simp
   refine (c1 _).mono ?_
   rintro e W1 ⟨rfl, hb1⟩
   have hp1 := (hb1.block w.heap.size (by rw [hsD]; omega)).trans HP.out
   have hq1 := (hb1.block (w.heap.size + 1) (by rw [hsD]; omega)).trans HQ.out
   obtain ⟨x0, x1, x2, x3, x4, x5⟩ := six_box hp1
   obtain ⟨y0, y1, y2, y3, y4, y5⟩ := six_box hq1
   have HB1 := hid (bel_d HB.out hb1)
   have HP1 := hid hp1
   have HQ1 := hid hq1
   have hs1 := hb1.size
   rw [hsD] at hs1
   clear hp1 hq1 hb1
   go_wp2_with fail
   refine hK.out _ _ (by first | assumption | go_keep) (fun hHeld => ?_)
   clear hK K
   try simp only [ptH]
   refine rdH [3] ?_
   refine alH rfl fun K hK => ?_
   go_simp
   refine (c2 _).mono ?_
   rintro e W2 ⟨rfl, hb2⟩
   exact ⟨rfl, rfl, HB1.out.trans (hb2.mono HB1.out.size)⟩
 ·rw [if_neg h1] at c1
  rw [if_neg h1]
  clear h1
  go_enter func123, ntmps123
  go_wp2_with fail
  try rw [hW0]
  refine rh12 w.heap.size (w.heap.size + 1) k1 b1 i1 s1 n1 l1 k2 b2 i2 s2 n2 l2 (by kernel_rfl) (by first | assumption | go_keep) (fun hHeld => ?_)
  refine tkH 0 rfl ?_; try simp only [ptH]
  refine tkH 2 rfl ?_; try simp only [ptH]
  refine rdH [1] ?_
  refine alH rfl fun K hK => ?_
  go_simp
  refine (c1 _).mono ?_
  rintro e W1 ⟨rfl, hb1⟩
  exact ⟨rfl, rfl, bel_d HB.out hb1⟩
end Go.Proofs.YtiijfmdfccdagaaGreatDoor.VIn
namespace Go.Proofs.YtiijfmdfccdagaaGreatDoor.VEx
open Go.RowKit
theorem ex_then {K : Act -> World -> Prop} {Q : Exit -> Act -> World -> Prop} {n : Nat} {a : Act} {w : World} (h : Q (.exit n) a w) : Exit.then K Q (.exit n) a w := h
theorem ex_skip {m n : Nat} {Q : Exit -> Act -> World -> Prop} {a : Act} {w : World} (hn : ¬ n = m) (h : Q (.exit n) a w) : Exit.inBlock m Q (.exit n) a w := by
 show (if n = m then Q .normal a w else Q (.exit n) a w)
 rw [if_neg hn]
 exact h
theorem ex_hit {n : Nat} {Q : Exit -> Act -> World -> Prop} {a : Act} {w : World} (h : Q .normal a w) : Exit.inBlock n Q (.exit n) a w := by
 show (if n = n then Q .normal a w else Q (.exit n) a w)
 rw [if_pos rfl]
 exact h
theorem ex_norm {K : Act -> World -> Prop} {Q : Exit -> Act -> World -> Prop} {a : Act} {w : World} (h : K a w) : Exit.then K Q .normal a w := h
theorem rt_then {K : Act -> World -> Prop} {Q : Exit -> Act -> World -> Prop} {a : Act} {w : World} (h : Q .ret a w) : Exit.then K Q .ret a w := h
theorem rt_blk {m : Nat} {Q : Exit -> Act -> World -> Prop} {a : Act} {w : World} (h : Q .ret a w) : Exit.inBlock m Q .ret a w := h
theorem pn_then {K : Act -> World -> Prop} {Q : Exit -> Act -> World -> Prop} {c : List PanicEntry} {a : Act} {w : World} (h : Q (.panic c) a w) : Exit.then K Q (.panic c) a w := h
theorem pn_blk {m : Nat} {Q : Exit -> Act -> World -> Prop} {c : List PanicEntry} {a : Act} {w : World} (h : Q (.panic c) a w) : Exit.inBlock m Q (.panic c) a w := h
def Out (B : Exit -> Act -> World -> Prop) : Exit -> Act -> World -> Prop
 | .ret, a, w => B .ret a w
 | .panic c, a, w => B (.panic c) a w
 | _, _, _ => False
theorem out_mono {B Q : Exit -> Act -> World -> Prop} (hr : ∀ a w, B .ret a w -> Q .ret a w) (hp : ∀ c a w, B (.panic c) a w -> Q (.panic c) a w) : ∀ e a w, Out B e a w -> Q e a w := by
 intro e a w h
 cases e with
 | ret => exact hr a w h
 | panic c => exact hp c a w h
 | _ => exact h.elim
theorem out_ret {P : Program} {fn : Func} {R : Ending -> World -> Prop} {a : Act} {w : World} {v : Value} (hr : (results fn a.tmps).run P w = .ok v w) (hd : a.defers = []) (hR : R (.returned v) w) : Out (bodyPost P fn R) .ret a w := bodyPost_ret hr hd hR
end Go.Proofs.YtiijfmdfccdagaaGreatDoor.VEx
namespace Go.Proofs.YtiijfmdfccdagaaGreatDoor.XBase
open Go.RowKit EPure
open Base (cell_lt Keep nx nxB add_none heap_alloc_new box_at below_box All below_cell)
def room7 : Value := .agg #[.int .i64 (-7), .int .i64 0, .string ⟨#[]⟩, .slice none 0 0]
def Four (w : World) (g o : Nat) (u : Value) : Prop :=
 ∃ v0 v1 v2 v3, u = .agg #[v0, v1, v2, v3] /\ w.cell? ⟨g, o, none⟩ = some v0 /\ w.cell? ⟨g, o + 1, none⟩ = some v1 /\ w.cell? ⟨g, o + 2, none⟩ = some v2 /\ w.cell? ⟨g, o + 3, none⟩ = some v3
def In (r : Bool) (S : Nat -> Prop) (w : World) : Nat -> Value -> Ex -> Prop
 | 0, _, _ => False
 | m + 1, v, .mk k i s l => ∃ a cap, v = .agg #[.int .i64 k, .int .i64 i, .string s, .slice a l.length cap] /\
   (-9223372036854775808 <= k /\ k <= 9223372036854775807) /\ (-9223372036854775808 <= i /\ i <= 9223372036854775807) /\ s.size <= 140737488351232 /\
   l.length <= cap /\ cap <= 9223372036854775807 /\ l.length * 56 <= 140737488351232 /\ (a = none -> cap = 0) /\
   ((l = [] /\ r = false) \/ ∃ g o, a = some ⟨g, o, none⟩ /\ S g /\ (∀ j (h : j < l.length), ∃ u, Four w g (o + j * 4) u /\ In r S w m u l[j]) /\
    (r = true -> l.length + 2 <= cap /\ Four w g (o + l.length * 4) room7 /\ Four w g (o + l.length * 4 + 4) room7))
def LAt (r : Bool) (S : Nat -> Prop) (w : World) (m : Nat) (a : Option Addr) (cap : Nat) (l : List Ex) : Prop := (l = [] /\ r = false) \/ ∃ g o, a = some ⟨g, o, none⟩ /\ S g /\ (∀ j (h : j < l.length), ∃ u, Four w g (o + j * 4) u /\ In r S w m u l[j]) /\
    (r = true -> l.length + 2 <= cap /\ Four w g (o + l.length * 4) room7 /\ Four w g (o + l.length * 4 + 4) room7)
def InL (r : Bool) (S : Nat -> Prop) (w : World) (m : Nat) (v : Value) (l : List Ex) : Prop :=
 ∃ a cap, v = .slice a l.length cap /\ l.length <= cap /\ cap <= 9223372036854775807 /\ l.length * 56 <= 140737488351232 /\ (a = none -> cap = 0) /\ LAt r S w m a cap l
theorem in_iff {r : Bool} {S : Nat -> Prop} {w : World} {m : Nat} {v : Value} {k i : Int} {s : ByteArray} {l : List Ex} :
  In r S w (m + 1) v (.mk k i s l) ↔ ∃ lv, v = .agg #[.int .i64 k, .int .i64 i, .string s, lv] /\
   (-9223372036854775808 <= k /\ k <= 9223372036854775807) /\ (-9223372036854775808 <= i /\ i <= 9223372036854775807) /\ s.size <= 140737488351232 /\ InL r S w m lv l := by
 constructor
 ·intro h
  rw [In] at h
  obtain ⟨a, cap, h1, h2, h3, h4, h6⟩ := h
  exact ⟨_, h1, h2, h3, h4, a, cap, rfl, h6⟩
 ·rintro ⟨lv, h1, h2, h3, h4, a, cap, rfl, h6⟩
  rw [In]
  exact ⟨a, cap, h1, h2, h3, h4, h6⟩
theorem Keep.four {S : Nat -> Prop} {w w' : World} (h : Keep S w w') {g o : Nat} {v : Value} (hS : S g) (hc : Four w g o v) : Four w' g o v := by
 obtain ⟨v0, v1, v2, v3, rfl, c0, c1, c2, c3⟩ := hc
 exact ⟨v0, v1, v2, v3, rfl, h.cell hS c0, h.cell hS c1, h.cell hS c2, h.cell hS c3⟩
theorem InL.keep_of {r : Bool} {S : Nat -> Prop} {w w' : World} {m : Nat} (ih : ∀ (v : Value) (c : Ex), In r S w m v c -> In r S w' m v c) {v : Value} {l : List Ex} (h : InL r S w m v l) (hk : Keep S w w') : InL r S w' m v l := by
 obtain ⟨a, cap, h1, h2, h3, h4, h5, h6⟩ := h
 refine ⟨a, cap, h1, h2, h3, h4, h5, ?_⟩
 rcases h6 with h6 | ⟨g, o, ha, hS, hc, hr⟩
 ·exact .inl h6
 ·refine .inr ⟨g, o, ha, hS, fun j hj => ?_, fun hr' => ⟨(hr hr').1, Keep.four hk hS (hr hr').2.1, Keep.four hk hS (hr hr').2.2⟩⟩
  obtain ⟨u, hu, hi⟩ := hc j hj
  exact ⟨u, Keep.four hk hS hu, ih _ _ hi⟩
theorem In.keep {r : Bool} {S : Nat -> Prop} {w w' : World} (hk : Keep S w w') : ∀ {m : Nat} {v : Value} {c : Ex}, In r S w m v c -> In r S w' m v c := by
 intro m
 induction m with
 | zero => intro v c h; rw [In] at h; exact h.elim
 | succ m ih =>
  intro v c h
  obtain ⟨k, i, s, l⟩ := c
  rw [in_iff] at h ⊢
  obtain ⟨lv, h1, h3, h4, h5, h6⟩ := h
  exact ⟨lv, h1, h3, h4, h5, h6.keep_of (fun v c => ih) hk⟩
theorem InL.keep {r : Bool} {S : Nat -> Prop} {w w' : World} {m : Nat} {v : Value} {l : List Ex} (h : InL r S w m v l) (hk : Keep S w w') : InL r S w' m v l := h.keep_of (fun v c h => h.keep hk) hk
theorem In.below {r : Bool} {S : Nat -> Prop} {w w' : World} {m : Nat} {v : Value} {c : Ex} (h : In r S w m v c) (hk : Below w.heap.size w w') : In r S w' m v c := h.keep (.of_below hk)
theorem InL.weak_of {r : Bool} {S S' : Nat -> Prop} {w : World} {m m' : Nat} {v : Value} {l : List Ex} (hS : ∀ b, S b -> S' b) (r' : Bool) (hr : r' = true -> r = true) (ih : ∀ (v : Value) (c : Ex), In r S w m v c -> In r' S' w m' v c)
  (h : InL r S w m v l) : InL r' S' w m' v l := by
 obtain ⟨a, cap, h1, h2, h3, h4, h5, h6⟩ := h
 refine ⟨a, cap, h1, h2, h3, h4, h5, ?_⟩
 rcases h6 with ⟨h7, h8⟩ | ⟨g, o, ha, hg, hc, hr0⟩
 ·refine .inl ⟨h7, ?_⟩
  cases r' with
  | true => rw [hr rfl] at h8; cases h8
  | false => rfl
 ·refine .inr ⟨g, o, ha, hS _ hg, fun j hj => ?_, fun h => hr0 (hr h)⟩
  obtain ⟨u, hu, hi⟩ := hc j hj
  exact ⟨u, hu, ih _ _ hi⟩
theorem In.weak {r : Bool} {S S' : Nat -> Prop} {w : World} (hS : ∀ b, S b -> S' b) (r' : Bool) (hr : r' = true -> r = true) : ∀ {m : Nat} (m' : Nat) {v : Value} {c : Ex}, m <= m' -> In r S w m v c -> In r' S' w m' v c := by
 intro m
 induction m with
 | zero => intro m' v c _ h; rw [In] at h; exact h.elim
 | succ m ih =>
  intro m' v c hm h
  obtain ⟨m', rfl⟩ : ∃ q, m' = q + 1 := ⟨m' - 1, by omega⟩
  obtain ⟨k, i, s, l⟩ := c
  rw [in_iff] at h ⊢
  obtain ⟨lv, h1, h3, h4, h5, h6⟩ := h
  exact ⟨lv, h1, h3, h4, h5, h6.weak_of hS r' hr (fun v c h => ih m' (by omega) h)⟩
theorem InL.weak {r : Bool} {S S' : Nat -> Prop} {w : World} (hS : ∀ b, S b -> S' b) (r' : Bool) (hr : r' = true -> r = true) {m : Nat} (m' : Nat) {v : Value} {l : List Ex} (hm : m <= m') (h : InL r S w m v l) : InL r' S' w m' v l :=
 h.weak_of hS r' hr (fun v c h => h.weak hS r' hr m' hm)
theorem four_box {w : World} {B : Nat} {v0 v1 v2 v3 : Value} {t : TypeId} (h : w.heap[B]? = some (.cells #[v0, v1, v2, v3] t (0, 0))) :
  w.cell? ⟨B, 0, none⟩ = some v0 /\ w.cell? ⟨B, 1, none⟩ = some v1 /\ w.cell? ⟨B, 2, none⟩ = some v2 /\ w.cell? ⟨B, 3, none⟩ = some v3 := by
 refine ⟨?_, ?_, ?_, ?_⟩ <;> simp [World.cell?, h]
theorem frozen_box {w : World} {B : Nat} {vs : Array Value} {t : TypeId} (h : w.heap[B]? = some (.cells vs t (0, 0))) (j : Nat) : w.frozen? ⟨B, j, none⟩ = false := by
 simp [World.frozen?, h]
theorem elem_at {r : Bool} {S : Nat -> Prop} {w : World} {m : Nat} {a : Option Addr} {cap : Nat} {l : List Ex} (hL : LAt r S w m a cap l) {q : Nat} (h : q < l.length) :
  ∃ g o u, a = some ⟨g, o, none⟩ /\ S g /\ Four w g (o + q * 4) u /\ In r S w m u l[q] := by
 rcases hL with ⟨rfl, _⟩ | ⟨g, o, ha, hS, hc, _⟩
 ·simp at h
 ·obtain ⟨u, hu, hi⟩ := hc q h
  exact ⟨g, o, u, ha, hS, hu, hi⟩
theorem In.shape {r : Bool} {S : Nat -> Prop} {w : World} {m : Nat} {v : Value} {c : Ex} (h : In r S w m v c) :
  ∃ m' lv, m = m' + 1 /\ v = .agg #[.int .i64 c.o, .int .i64 c.i, .string c.s, lv] /\ (-9223372036854775808 <= c.o /\ c.o <= 9223372036854775807) /\ (-9223372036854775808 <= c.i /\ c.i <= 9223372036854775807) /\ c.s.size <= 140737488351232 /\ InL r S w m' lv c.l := by
 cases m with
 | zero => rw [In] at h; exact h.elim
 | succ m =>
  obtain ⟨k, i, s, l⟩ := c
  rw [in_iff] at h
  obtain ⟨lv, h⟩ := h
  exact ⟨m, lv, rfl, h⟩
theorem In.kinds {r : Bool} {S : Nat -> Prop} {w : World} {m : Nat} {x0 x1 x2 x3 : Value} {c : Ex} (h : In r S w m (.agg #[x0, x1, x2, x3]) c) :
  ∃ m' a2 c2, m = m' + 1 /\ x0 = .int .i64 c.o /\ x1 = .int .i64 c.i /\ x2 = .string c.s /\ x3 = .slice a2 c.l.length c2 /\ (-9223372036854775808 <= c.o /\ c.o <= 9223372036854775807) /\ (-9223372036854775808 <= c.i /\ c.i <= 9223372036854775807) /\ c.s.size <= 140737488351232 /\ InL r S w m' (.slice a2 c.l.length c2) c.l := by
 obtain ⟨m', lv, hm, e, ho, hi, hs, hl⟩ := h.shape
 simp only [Value.agg.injEq, Array.mk.injEq, List.cons.injEq, and_true] at e
 obtain ⟨rfl, rfl, rfl, rfl⟩ := e
 have hl0 := hl
 obtain ⟨a2, c2, rfl, -⟩ := hl
 exact ⟨m', a2, c2, hm, rfl, rfl, rfl, rfl, ho, hi, hs, hl0⟩
theorem In.leaf (w : World) (m : Nat) (S : Nat -> Prop) (k i : Int) (s : ByteArray) (hk : -9223372036854775808 <= k /\ k <= 9223372036854775807) (hi : -9223372036854775808 <= i /\ i <= 9223372036854775807) (hs : s.size <= 140737488351232) :
  In false S w (m + 1) (.agg #[.int .i64 k, .int .i64 i, .string s, .slice none 0 0]) (.mk k i s []) := by
 rw [in_iff]
 exact ⟨_, rfl, hk, hi, hs, none, 0, rfl, by simp, by simp, by simp, fun _ => rfl, .inl ⟨rfl, rfl⟩⟩
end Go.Proofs.YtiijfmdfccdagaaGreatDoor.XBase

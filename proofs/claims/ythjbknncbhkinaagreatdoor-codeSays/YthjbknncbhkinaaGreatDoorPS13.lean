import Derived.Deep.RegionWith
import Derived.Laws.ResultCell
import Derived.Test.YthjbknncbhkinaaGreatDoorPS00
import Derived.Test.YthjbknncbhkinaaGreatDoorPS07
open Go.Proofs.Tryz
set_option linter.unusedVariables false
namespace Go.Proofs.YthjbknncbhkinaaGreatDoor.VSm
open Go.RowKit Base
def pkE (c : Nat) : List PanicEntry := [{ v := .iface 29 (.int .i64 (c : Nat)), recovered := false }]
abbrev vl (k : Int) (b : Bool) (i : Int) (s : ByteArray) (nv lv : Value) : Value := .agg #[.int .i64 k, .bool b, .int .i64 i, .string s, nv, lv]
abbrev v0 (k : Int) (b : Bool) (i : Int) (s : ByteArray) : Value := vl k b i s (.slice none 0 0) (.slice none 0 0)
theorem two2 (w : World) (c1 c2 : Array Value) : ∃ W0, (w.alloc (.cells c1 46)).alloc (.cells c2 46) = W0 /\ W0.heap.size = w.heap.size + 2 /\ Below w.heap.size w W0 /\ W0.heap[w.heap.size]? = some (.cells c1 46 (0, 0)) /\ W0.heap[w.heap.size + 1]? = some (.cells c2 46 (0, 0)) := by
 refine ⟨_, rfl, by simp, ((Below.refl _ w).alloc (Nat.le_refl _) _).alloc (by simp) _, ?_, ?_⟩
 ·rw [Below.heap_alloc _ _ _ (by simp), heap_alloc_new]
 ·have := heap_alloc_new (w.alloc (.cells c1 46)) (.cells c2 46)
  rw [World.size_alloc] at this
  exact this
theorem two3 (w : World) (c1 c2 : Array Value) : ∃ W0, ((w.alloc (.cells c1 46)).alloc (.cells c2 46)).alloc (.cells #[.int .i64 0, .bool false, .int .i64 0, .string ⟨#[]⟩, .slice none 0 0, .slice none 0 0] 46) = W0 /\ W0.heap.size = w.heap.size + 3 /\ Below w.heap.size w W0 /\ W0.heap[w.heap.size]? = some (.cells c1 46 (0, 0)) /\ W0.heap[w.heap.size + 1]? = some (.cells c2 46 (0, 0)) /\ W0.heap[w.heap.size + 2]? = some (.cells #[.int .i64 0, .bool false, .int .i64 0, .string ⟨#[]⟩, .slice none 0 0, .slice none 0 0] 46 (0, 0)) := by
 obtain ⟨W1, h1, h2, h3, h4, h5⟩ := two2 w c1 c2
 rw [h1]
 refine ⟨_, rfl, by simp [h2], h3.alloc (by omega) _, ?_, ?_, ?_⟩
 ·rw [Below.heap_alloc _ _ _ (by omega)]; exact h4
 ·rw [Below.heap_alloc _ _ _ (by omega)]; exact h5
 ·rw [<- h2]; exact heap_alloc_new _ _
theorem three (w : World) (c1 c2 : Array Value) (T1 T2 : TypeId) : ∃ W0, ((w.alloc (.cells c1 T1)).alloc (.cells c2 T2)).alloc (.cells #[.int .i64 0, .bool false, .int .i64 0, .string ⟨#[]⟩, .slice none 0 0, .slice none 0 0] 46) = W0 /\ W0.heap.size = w.heap.size + 3 /\ Below w.heap.size w W0 /\ W0.heap[w.heap.size]? = some (.cells c1 T1 (0, 0)) /\ W0.heap[w.heap.size + 1]? = some (.cells c2 T2 (0, 0)) /\ W0.heap[w.heap.size + 2]? = some (.cells #[.int .i64 0, .bool false, .int .i64 0, .string ⟨#[]⟩, .slice none 0 0, .slice none 0 0] 46 (0, 0)) := by
 refine ⟨_, rfl, by simp, (((Below.refl _ w).alloc (Nat.le_refl _) _).alloc (by simp) _).alloc (by simp; omega) _, ?_, ?_, ?_⟩
 ·rw [Below.heap_alloc _ _ _ (by simp; omega), Below.heap_alloc _ _ _ (by simp), heap_alloc_new]
 ·have := heap_alloc_new (w.alloc (.cells c1 T1)) (.cells c2 T2)
  rw [World.size_alloc] at this
  rw [Below.heap_alloc _ _ _ (by simp)]
  exact this
 ·have := heap_alloc_new ((w.alloc (.cells c1 T1)).alloc (.cells c2 T2)) (.cells #[.int .i64 0, .bool false, .int .i64 0, .string ⟨#[]⟩, .slice none 0 0, .slice none 0 0] 46)
  rw [World.size_alloc, World.size_alloc] at this
  exact this
theorem truth_c (b : Bool) (w : World) : Calls prog 84 #[.bool b] w fun e w' => e = .returned (v0 2 b 0 ⟨#[]⟩) /\ Below w.heap.size w w' := by
 have hr : (w.alloc (.cells #[.int .i64 0, .bool false, .int .i64 0, .string ⟨#[]⟩, .slice none 0 0, .slice none 0 0] 46)).heap[w.heap.size]? = some (.cells #[.int .i64 0, .bool false, .int .i64 0, .string ⟨#[]⟩, .slice none 0 0, .slice none 0 0] 46 (0, 0)) := heap_alloc_new w _
 have hb0 : Below w.heap.size w (w.alloc (.cells #[.int .i64 0, .bool false, .int .i64 0, .string ⟨#[]⟩, .slice none 0 0, .slice none 0 0] 46)) := (Below.refl _ w).alloc (Nat.le_refl _) _
 obtain ⟨W0, hW0⟩ : ∃ W0, w.alloc (.cells #[.int .i64 0, .bool false, .int .i64 0, .string ⟨#[]⟩, .slice none 0 0, .slice none 0 0] 46) = W0 := ⟨_, rfl⟩
 rw [hW0] at hr hb0
 obtain ⟨r0, r1, r2, r3, r4, r5⟩ := six_box hr
 have rf0 := frozen_box hr 0
 have rf1 := frozen_box hr 1
 have rf2 := frozen_box hr 2
 have rf3 := frozen_box hr 3
 have rf4 := frozen_box hr 4
 have rf5 := frozen_box hr 5
 go_enter func84, ntmps84
 go_wp2_with fail
 obtain ⟨W9, hW9⟩ : ∃ W9, ((((((W0.setCell ⟨w.heap.size, 0, none⟩ (.int .i64 2)).setCell ⟨w.heap.size, 1, none⟩ (.bool b)).setCell ⟨w.heap.size, 2, none⟩ (.int .i64 0)).setCell ⟨w.heap.size, 3, none⟩ (.string ⟨#[]⟩)).setCell ⟨w.heap.size, 4, none⟩ (.slice none 0 0)).setCell ⟨w.heap.size, 5, none⟩ (.slice none 0 0)) = W9 := ⟨_, rfl⟩
 rw [hW9]
 obtain ⟨q1, q2, q3, q4⟩ := set6 _ _ _ _ _ _ hr hW9
 refine bodyPost_ret (results_cell_row rfl _ W9 (w.heap.size) 46 _ (0, 0) _ rfl q1 underlying46 rfl (by kernel_rfl)) rfl ?_
 exact ⟨rfl, q4 _ _ (Nat.le_refl _) hb0⟩
theorem number_c (i : Int) (w : World) : Calls prog 85 #[.int .i64 i] w fun e w' => e = .returned (v0 3 false i ⟨#[]⟩) /\ Below w.heap.size w w' := by
 have hr : (w.alloc (.cells #[.int .i64 0, .bool false, .int .i64 0, .string ⟨#[]⟩, .slice none 0 0, .slice none 0 0] 46)).heap[w.heap.size]? = some (.cells #[.int .i64 0, .bool false, .int .i64 0, .string ⟨#[]⟩, .slice none 0 0, .slice none 0 0] 46 (0, 0)) := heap_alloc_new w _
 have hb0 : Below w.heap.size w (w.alloc (.cells #[.int .i64 0, .bool false, .int .i64 0, .string ⟨#[]⟩, .slice none 0 0, .slice none 0 0] 46)) := (Below.refl _ w).alloc (Nat.le_refl _) _
 obtain ⟨W0, hW0⟩ : ∃ W0, w.alloc (.cells #[.int .i64 0, .bool false, .int .i64 0, .string ⟨#[]⟩, .slice none 0 0, .slice none 0 0] 46) = W0 := ⟨_, rfl⟩
 rw [hW0] at hr hb0
 obtain ⟨r0, r1, r2, r3, r4, r5⟩ := six_box hr
 have rf0 := frozen_box hr 0
 have rf1 := frozen_box hr 1
 have rf2 := frozen_box hr 2
 have rf3 := frozen_box hr 3
 have rf4 := frozen_box hr 4
 have rf5 := frozen_box hr 5
 go_enter func85, ntmps85
 go_wp2_with fail
 obtain ⟨W9, hW9⟩ : ∃ W9, ((((((W0.setCell ⟨w.heap.size, 0, none⟩ (.int .i64 3)).setCell ⟨w.heap.size, 1, none⟩ (.bool false)).setCell ⟨w.heap.size, 2, none⟩ (.int .i64 i)).setCell ⟨w.heap.size, 3, none⟩ (.string ⟨#[]⟩)).setCell ⟨w.heap.size, 4, none⟩ (.slice none 0 0)).setCell ⟨w.heap.size, 5, none⟩ (.slice none 0 0)) = W9 := ⟨_, rfl⟩
 rw [hW9]
 obtain ⟨q1, q2, q3, q4⟩ := set6 _ _ _ _ _ _ hr hW9
 refine bodyPost_ret (results_cell_row rfl _ W9 (w.heap.size) 46 _ (0, 0) _ rfl q1 underlying46 rfl (by kernel_rfl)) rfl ?_
 exact ⟨rfl, q4 _ _ (Nat.le_refl _) hb0⟩
theorem text_c (s : ByteArray) (w : World) : Calls prog 86 #[.string s] w fun e w' => e = .returned (v0 4 false 0 s) /\ Below w.heap.size w w' := by
 have hr : (w.alloc (.cells #[.int .i64 0, .bool false, .int .i64 0, .string ⟨#[]⟩, .slice none 0 0, .slice none 0 0] 46)).heap[w.heap.size]? = some (.cells #[.int .i64 0, .bool false, .int .i64 0, .string ⟨#[]⟩, .slice none 0 0, .slice none 0 0] 46 (0, 0)) := heap_alloc_new w _
 have hb0 : Below w.heap.size w (w.alloc (.cells #[.int .i64 0, .bool false, .int .i64 0, .string ⟨#[]⟩, .slice none 0 0, .slice none 0 0] 46)) := (Below.refl _ w).alloc (Nat.le_refl _) _
 obtain ⟨W0, hW0⟩ : ∃ W0, w.alloc (.cells #[.int .i64 0, .bool false, .int .i64 0, .string ⟨#[]⟩, .slice none 0 0, .slice none 0 0] 46) = W0 := ⟨_, rfl⟩
 rw [hW0] at hr hb0
 obtain ⟨r0, r1, r2, r3, r4, r5⟩ := six_box hr
 have rf0 := frozen_box hr 0
 have rf1 := frozen_box hr 1
 have rf2 := frozen_box hr 2
 have rf3 := frozen_box hr 3
 have rf4 := frozen_box hr 4
 have rf5 := frozen_box hr 5
 go_enter func86, ntmps86
 go_wp2_with fail
 obtain ⟨W9, hW9⟩ : ∃ W9, ((((((W0.setCell ⟨w.heap.size, 0, none⟩ (.int .i64 4)).setCell ⟨w.heap.size, 1, none⟩ (.bool false)).setCell ⟨w.heap.size, 2, none⟩ (.int .i64 0)).setCell ⟨w.heap.size, 3, none⟩ (.string s)).setCell ⟨w.heap.size, 4, none⟩ (.slice none 0 0)).setCell ⟨w.heap.size, 5, none⟩ (.slice none 0 0)) = W9 := ⟨_, rfl⟩
 rw [hW9]
 obtain ⟨q1, q2, q3, q4⟩ := set6 _ _ _ _ _ _ hr hW9
 refine bodyPost_ret (results_cell_row rfl _ W9 (w.heap.size) 46 _ (0, 0) _ rfl q1 underlying46 rfl (by kernel_rfl)) rfl ?_
 exact ⟨rfl, q4 _ _ (Nat.le_refl _) hb0⟩
theorem must_t (w : World) : Calls prog 100 #[.bool true] w fun e w' => (∃ v, e = .returned v) /\ w' = w := by
 go_enter func100, ntmps100
 go_wp2_with fail
 go_end0
 exact ⟨⟨_, rfl⟩, rfl⟩
theorem must_f (w : World) : Calls prog 100 #[.bool false] w fun e w' => e = .panicked (pkE 1101) /\ w' = w := by
 unfold pkE
 go_enter func100, ntmps100
 go_wp2_with fail
 exact ⟨rfl, rfl, rfl⟩
def An {α : Type} (w w' : World) (e : Ending) (f : α -> Value) : Except Nat α -> Prop
 | .ok x => e = .returned (f x) /\ Below w.heap.size w w'
 | .error c => e = .panicked (pkE c) /\ Below w.heap.size w w'
theorem isTrue_c (k : Int) (b : Bool) (i : Int) (s : ByteArray) (nv lv : Value) (w : World) : Calls prog 80 #[vl k b i s nv lv] w fun e w' => An w w' e (Value.bool) (if k = 2 then .ok b else .error 1101) := by
 have hp : (w.alloc (.cells #[.int .i64 k, .bool b, .int .i64 i, .string s, nv, lv] 46)).heap[w.heap.size]? = some (.cells #[.int .i64 k, .bool b, .int .i64 i, .string s, nv, lv] 46 (0, 0)) := heap_alloc_new w _
 have hb0 : Below w.heap.size w (w.alloc (.cells #[.int .i64 k, .bool b, .int .i64 i, .string s, nv, lv] 46)) := (Below.refl _ w).alloc (Nat.le_refl _) _
 obtain ⟨W0, hW0⟩ : ∃ W0, w.alloc (.cells #[.int .i64 k, .bool b, .int .i64 i, .string s, nv, lv] 46) = W0 := ⟨_, rfl⟩
 rw [hW0] at hp hb0
 obtain ⟨p0, p1, p2, p3, p4, p5⟩ := six_box hp
 by_cases h : k = 2
 ·subst h
  rw [if_pos rfl]
  have c := must_t W0
  have HB : Hid (Below w.heap.size w W0) := hb0
  clear hb0 hp
  go_enter func80, ntmps80
  go_wp2_with fail
  try rw [hW0]
  refine c.mono ?_
  rintro e w' ⟨⟨v, rfl⟩, rfl⟩
  go_wp2_with fail
  go_ret
  exact ⟨rfl, HB.out⟩
 ·rw [if_neg h]
  have d : (k == 2) = false := by simp [h]
  have c := must_f W0
  have HB : Hid (Below w.heap.size w W0) := hb0
  clear hb0 hp h
  go_enter func80, ntmps80
  go_wp2_with fail
  try rw [hW0]
  refine c.mono ?_
  rintro e w' ⟨rfl, rfl⟩
  exact ⟨rfl, rfl, HB.out⟩
theorem integer_c (k : Int) (b : Bool) (i : Int) (s : ByteArray) (nv lv : Value) (w : World) : Calls prog 130 #[vl k b i s nv lv] w fun e w' => An w w' e (Value.int .i64) (if k = 3 then .ok i else .error 1101) := by
 have hp : (w.alloc (.cells #[.int .i64 k, .bool b, .int .i64 i, .string s, nv, lv] 46)).heap[w.heap.size]? = some (.cells #[.int .i64 k, .bool b, .int .i64 i, .string s, nv, lv] 46 (0, 0)) := heap_alloc_new w _
 have hb0 : Below w.heap.size w (w.alloc (.cells #[.int .i64 k, .bool b, .int .i64 i, .string s, nv, lv] 46)) := (Below.refl _ w).alloc (Nat.le_refl _) _
 obtain ⟨W0, hW0⟩ : ∃ W0, w.alloc (.cells #[.int .i64 k, .bool b, .int .i64 i, .string s, nv, lv] 46) = W0 := ⟨_, rfl⟩
 rw [hW0] at hp hb0
 obtain ⟨p0, p1, p2, p3, p4, p5⟩ := six_box hp
 by_cases h : k = 3
 ·subst h
  rw [if_pos rfl]
  have c := must_t W0
  have HB : Hid (Below w.heap.size w W0) := hb0
  clear hb0 hp
  go_enter func130, ntmps130
  go_wp2_with fail
  try rw [hW0]
  refine c.mono ?_
  rintro e w' ⟨⟨v, rfl⟩, rfl⟩
  go_wp2_with fail
  go_ret
  exact ⟨rfl, HB.out⟩
 ·rw [if_neg h]
  have d : (k == 3) = false := by simp [h]
  have c := must_f W0
  have HB : Hid (Below w.heap.size w W0) := hb0
  clear hb0 hp h
  go_enter func130, ntmps130
  go_wp2_with fail
  try rw [hW0]
  refine c.mono ?_
  rintro e w' ⟨rfl, rfl⟩
  exact ⟨rfl, rfl, HB.out⟩
theorem checked_c (x e0 : Int) (w : World) : Calls prog 105 #[.int .i64 x, .int .i64 e0] w fun e w' => An w w' e (fun c : Int => v0 3 false c ⟨#[]⟩) (if e0 = 100 then .error 1102 else if e0 = 101 then .error 1103 else if e0 = 102 then .error 1104 else .ok x) := by
 have hr : (w.alloc (.cells #[.int .i64 0, .bool false, .int .i64 0, .string ⟨#[]⟩, .slice none 0 0, .slice none 0 0] 46)).heap[w.heap.size]? = some (.cells #[.int .i64 0, .bool false, .int .i64 0, .string ⟨#[]⟩, .slice none 0 0, .slice none 0 0] 46 (0, 0)) := heap_alloc_new w _
 have hb0 : Below w.heap.size w (w.alloc (.cells #[.int .i64 0, .bool false, .int .i64 0, .string ⟨#[]⟩, .slice none 0 0, .slice none 0 0] 46)) := (Below.refl _ w).alloc (Nat.le_refl _) _
 have hs0 : (w.alloc (.cells #[.int .i64 0, .bool false, .int .i64 0, .string ⟨#[]⟩, .slice none 0 0, .slice none 0 0] 46)).heap.size = w.heap.size + 1 := by simp
 obtain ⟨W0, hW0⟩ : ∃ W0, w.alloc (.cells #[.int .i64 0, .bool false, .int .i64 0, .string ⟨#[]⟩, .slice none 0 0, .slice none 0 0] 46) = W0 := ⟨_, rfl⟩
 rw [hW0] at hr hb0 hs0
 by_cases h0 : e0 = 100
 ·subst h0
  rw [if_pos rfl]
  show Calls _ _ _ _ fun e w' => An w w' e _ (.error 1102)
  unfold An pkE
  have HB : Hid (Below w.heap.size w W0) := hb0
  clear hb0 hr
  go_enter func105, ntmps105
  go_wp2_with fail
  try rw [hW0]
  exact ⟨rfl, rfl, HB.out⟩
 by_cases h1 : e0 = 101
 ·subst h1
  rw [if_neg (by decide)]
  rw [if_pos rfl]
  show Calls _ _ _ _ fun e w' => An w w' e _ (.error 1103)
  unfold An pkE
  have HB : Hid (Below w.heap.size w W0) := hb0
  clear hb0 hr
  go_enter func105, ntmps105
  go_wp2_with fail
  try rw [hW0]
  exact ⟨rfl, rfl, HB.out⟩
 by_cases h2 : e0 = 102
 ·subst h2
  rw [if_neg (by decide)]
  rw [if_neg (by decide)]
  rw [if_pos rfl]
  show Calls _ _ _ _ fun e w' => An w w' e _ (.error 1104)
  unfold An pkE
  have HB : Hid (Below w.heap.size w W0) := hb0
  clear hb0 hr
  go_enter func105, ntmps105
  go_wp2_with fail
  try rw [hW0]
  exact ⟨rfl, rfl, HB.out⟩
 rw [if_neg h0, if_neg h1, if_neg h2]
 have d0 : (e0 == 100) = false := by simp [h0]
 have d1 : (e0 == 101) = false := by simp [h1]
 have d2 : (e0 == 102) = false := by simp [h2]
 have c := number_c x W0
 have HR : Hid (W0.heap[w.heap.size]? = some (.cells #[.int .i64 0, .bool false, .int .i64 0, .string ⟨#[]⟩, .slice none 0 0, .slice none 0 0] 46 (0, 0))) := hr
 have HB : Hid (Below w.heap.size w W0) := hb0
 clear hb0 hr h0 h1 h2
 go_enter func105, ntmps105
 go_wp2_with fail
 try rw [hW0]
 refine c.mono ?_
 rintro e W1 ⟨rfl, hb1⟩
 have hr := (hb1.block w.heap.size (by omega)).trans HR.out
 have HB1 : Hid (Below w.heap.size w W1) := HB.out.trans (hb1.mono HB.out.size)
 clear hb1 c
 obtain ⟨r0, r1, r2, r3, r4, r5⟩ := six_box hr
 have rf0 := frozen_box hr 0
 have rf1 := frozen_box hr 1
 have rf2 := frozen_box hr 2
 have rf3 := frozen_box hr 3
 have rf4 := frozen_box hr 4
 have rf5 := frozen_box hr 5
 go_wp2_with fail
 obtain ⟨W9, hW9⟩ : ∃ W9, ((((((W1.setCell ⟨w.heap.size, 0, none⟩ (.int .i64 3)).setCell ⟨w.heap.size, 1, none⟩ (.bool false)).setCell ⟨w.heap.size, 2, none⟩ (.int .i64 x)).setCell ⟨w.heap.size, 3, none⟩ (.string ⟨#[]⟩)).setCell ⟨w.heap.size, 4, none⟩ (.slice none 0 0)).setCell ⟨w.heap.size, 5, none⟩ (.slice none 0 0)) = W9 := ⟨_, rfl⟩
 rw [hW9]
 obtain ⟨q1, q2, q3, q4⟩ := set6 _ _ _ _ _ _ hr hW9
 refine bodyPost_ret (results_cell_row rfl _ W9 (w.heap.size) 46 _ (0, 0) _ rfl q1 underlying46 rfl (by kernel_rfl)) rfl ?_
 exact ⟨rfl, q4 _ _ (Nat.le_refl _) HB1.out⟩
end Go.Proofs.YthjbknncbhkinaaGreatDoor.VSm

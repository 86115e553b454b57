/- Leaving a switch out of many blocks, a layer at a time. -/
import Derived.Test.YthjbknncbhkinaaGreatDoorVPure
import Derived.Test.YthjbknncbhkinaaGreatDoorRow
import Derived.Laws.ResultCell
import Derived.Deep.RegionWith
import Derived.Test.YthjbknncbhkinaaGreatDoorTak
import Derived.Deep.RegionHeld3
import Derived.Deep.CutRange
namespace Go.Proofs.YthjbknncbhkinaaGreatDoor.VSm
open Go.RowKit Go.Proofs.YthjbknncbhkinaaGreatDoor.Base Go.Proofs.YthjbknncbhkinaaGreatDoor.EPure Go.Proofs.YthjbknncbhkinaaGreatDoor.VPure
set_option linter.unusedVariables false

/-- What is thrown. -/
def pkE (c : Nat) : List PanicEntry := [{ v := .iface 29 (.int .i64 (c : Nat)), recovered := false }]
/-- A value's six words. -/
abbrev vl (k : Int) (b : Bool) (i : Int) (s : ByteArray) (nv lv : Value) : Value := .agg #[.int .i64 k, .bool b, .int .i64 i, .string s, nv, lv]
abbrev v0 (k : Int) (b : Bool) (i : Int) (s : ByteArray) : Value := vl k b i s (.slice none 0 0) (.slice none 0 0)
/-- Boxes of two values, and of a result. -/
theorem two2 (w : World) (c1 c2 : Array Value) : ∃ W0, (w.alloc (.cells c1 46)).alloc (.cells c2 46) = W0 ∧ W0.heap.size = w.heap.size + 2 ∧ Below w.heap.size w W0 ∧ W0.heap[w.heap.size]? = some (.cells c1 46 (0, 0)) ∧ W0.heap[w.heap.size + 1]? = some (.cells c2 46 (0, 0)) := by
  refine ⟨_, rfl, by simp, ((Below.refl _ w).alloc (Nat.le_refl _) _).alloc (by simp) _, ?_, ?_⟩
  · rw [Below.heap_alloc _ _ _ (by simp), heap_alloc_new]
  · have := heap_alloc_new (w.alloc (.cells c1 46)) (.cells c2 46)
    rw [World.size_alloc] at this
    exact this
theorem two3 (w : World) (c1 c2 : Array Value) : ∃ W0, ((w.alloc (.cells c1 46)).alloc (.cells c2 46)).alloc (.cells #[.int .i64 0, .bool false, .int .i64 0, .string ⟨#[]⟩, .slice none 0 0, .slice none 0 0] 46) = W0 ∧ W0.heap.size = w.heap.size + 3 ∧ Below w.heap.size w W0 ∧ W0.heap[w.heap.size]? = some (.cells c1 46 (0, 0)) ∧ W0.heap[w.heap.size + 1]? = some (.cells c2 46 (0, 0)) ∧ W0.heap[w.heap.size + 2]? = some (.cells #[.int .i64 0, .bool false, .int .i64 0, .string ⟨#[]⟩, .slice none 0 0, .slice none 0 0] 46 (0, 0)) := by
  obtain ⟨W1, h1, h2, h3, h4, h5⟩ := two2 w c1 c2
  rw [h1]
  refine ⟨_, rfl, by simp [h2], h3.alloc (by omega) _, ?_, ?_, ?_⟩
  · rw [Below.heap_alloc _ _ _ (by omega)]; exact h4
  · rw [Below.heap_alloc _ _ _ (by omega)]; exact h5
  · rw [← h2]; exact heap_alloc_new _ _
/-- Boxes of a walker, an expression and a result. -/
theorem three (w : World) (c1 c2 : Array Value) (T1 T2 : TypeId) : ∃ W0, ((w.alloc (.cells c1 T1)).alloc (.cells c2 T2)).alloc (.cells #[.int .i64 0, .bool false, .int .i64 0, .string ⟨#[]⟩, .slice none 0 0, .slice none 0 0] 46) = W0 ∧ W0.heap.size = w.heap.size + 3 ∧ Below w.heap.size w W0 ∧ W0.heap[w.heap.size]? = some (.cells c1 T1 (0, 0)) ∧ W0.heap[w.heap.size + 1]? = some (.cells c2 T2 (0, 0)) ∧ W0.heap[w.heap.size + 2]? = some (.cells #[.int .i64 0, .bool false, .int .i64 0, .string ⟨#[]⟩, .slice none 0 0, .slice none 0 0] 46 (0, 0)) := by
  refine ⟨_, rfl, by simp, (((Below.refl _ w).alloc (Nat.le_refl _) _).alloc (by simp) _).alloc (by simp; omega) _, ?_, ?_, ?_⟩
  · rw [Below.heap_alloc _ _ _ (by simp; omega), Below.heap_alloc _ _ _ (by simp), heap_alloc_new]
  · have := heap_alloc_new (w.alloc (.cells c1 T1)) (.cells c2 T2)
    rw [World.size_alloc] at this
    rw [Below.heap_alloc _ _ _ (by simp)]
    exact this
  · have := heap_alloc_new ((w.alloc (.cells c1 T1)).alloc (.cells c2 T2)) (.cells #[.int .i64 0, .bool false, .int .i64 0, .string ⟨#[]⟩, .slice none 0 0, .slice none 0 0] 46)
    rw [World.size_alloc, World.size_alloc] at this
    exact this
theorem truth_c (b : Bool) (w : World) : Calls Tryz.prog 84 #[.bool b] w fun e w' => e = .returned (v0 2 b 0 ⟨#[]⟩) ∧ Below w.heap.size w w' := by
  have hr : (w.alloc (.cells #[.int .i64 0, .bool false, .int .i64 0, .string ⟨#[]⟩, .slice none 0 0, .slice none 0 0] 46)).heap[w.heap.size]? = some (.cells #[.int .i64 0, .bool false, .int .i64 0, .string ⟨#[]⟩, .slice none 0 0, .slice none 0 0] 46 (0, 0)) := heap_alloc_new w _
  have hb0 : Below w.heap.size w (w.alloc (.cells #[.int .i64 0, .bool false, .int .i64 0, .string ⟨#[]⟩, .slice none 0 0, .slice none 0 0] 46)) := (Below.refl _ w).alloc (Nat.le_refl _) _
  obtain ⟨W0, hW0⟩ : ∃ W0, w.alloc (.cells #[.int .i64 0, .bool false, .int .i64 0, .string ⟨#[]⟩, .slice none 0 0, .slice none 0 0] 46) = W0 := ⟨_, rfl⟩
  rw [hW0] at hr hb0
  obtain ⟨r0, r1, r2, r3, r4, r5⟩ := six_box hr
  have rf0 := frozen_box hr 0
  have rf1 := frozen_box hr 1
  have rf2 := frozen_box hr 2
  have rf3 := frozen_box hr 3
  have rf4 := frozen_box hr 4
  have rf5 := frozen_box hr 5
  go_enter Tryz.func84, Tryz.ntmps84
  go_wp2_with fail
  obtain ⟨W9, hW9⟩ : ∃ W9, ((((((W0.setCell ⟨w.heap.size, 0, none⟩ (.int .i64 2)).setCell ⟨w.heap.size, 1, none⟩ (.bool b)).setCell ⟨w.heap.size, 2, none⟩ (.int .i64 0)).setCell ⟨w.heap.size, 3, none⟩ (.string ⟨#[]⟩)).setCell ⟨w.heap.size, 4, none⟩ (.slice none 0 0)).setCell ⟨w.heap.size, 5, none⟩ (.slice none 0 0)) = W9 := ⟨_, rfl⟩
  rw [hW9]
  obtain ⟨q1, q2, q3, q4⟩ := set6 _ _ _ _ _ _ hr hW9
  refine bodyPost_ret (results_cell_row rfl _ W9 (w.heap.size) 46 _ (0, 0) _ rfl q1 Tryz.underlying46 rfl (by kernel_rfl)) rfl ?_
  exact ⟨rfl, q4 _ _ (Nat.le_refl _) hb0⟩
theorem number_c (i : Int) (w : World) : Calls Tryz.prog 85 #[.int .i64 i] w fun e w' => e = .returned (v0 3 false i ⟨#[]⟩) ∧ Below w.heap.size w w' := by
  have hr : (w.alloc (.cells #[.int .i64 0, .bool false, .int .i64 0, .string ⟨#[]⟩, .slice none 0 0, .slice none 0 0] 46)).heap[w.heap.size]? = some (.cells #[.int .i64 0, .bool false, .int .i64 0, .string ⟨#[]⟩, .slice none 0 0, .slice none 0 0] 46 (0, 0)) := heap_alloc_new w _
  have hb0 : Below w.heap.size w (w.alloc (.cells #[.int .i64 0, .bool false, .int .i64 0, .string ⟨#[]⟩, .slice none 0 0, .slice none 0 0] 46)) := (Below.refl _ w).alloc (Nat.le_refl _) _
  obtain ⟨W0, hW0⟩ : ∃ W0, w.alloc (.cells #[.int .i64 0, .bool false, .int .i64 0, .string ⟨#[]⟩, .slice none 0 0, .slice none 0 0] 46) = W0 := ⟨_, rfl⟩
  rw [hW0] at hr hb0
  obtain ⟨r0, r1, r2, r3, r4, r5⟩ := six_box hr
  have rf0 := frozen_box hr 0
  have rf1 := frozen_box hr 1
  have rf2 := frozen_box hr 2
  have rf3 := frozen_box hr 3
  have rf4 := frozen_box hr 4
  have rf5 := frozen_box hr 5
  go_enter Tryz.func85, Tryz.ntmps85
  go_wp2_with fail
  obtain ⟨W9, hW9⟩ : ∃ W9, ((((((W0.setCell ⟨w.heap.size, 0, none⟩ (.int .i64 3)).setCell ⟨w.heap.size, 1, none⟩ (.bool false)).setCell ⟨w.heap.size, 2, none⟩ (.int .i64 i)).setCell ⟨w.heap.size, 3, none⟩ (.string ⟨#[]⟩)).setCell ⟨w.heap.size, 4, none⟩ (.slice none 0 0)).setCell ⟨w.heap.size, 5, none⟩ (.slice none 0 0)) = W9 := ⟨_, rfl⟩
  rw [hW9]
  obtain ⟨q1, q2, q3, q4⟩ := set6 _ _ _ _ _ _ hr hW9
  refine bodyPost_ret (results_cell_row rfl _ W9 (w.heap.size) 46 _ (0, 0) _ rfl q1 Tryz.underlying46 rfl (by kernel_rfl)) rfl ?_
  exact ⟨rfl, q4 _ _ (Nat.le_refl _) hb0⟩
theorem text_c (s : ByteArray) (w : World) : Calls Tryz.prog 86 #[.string s] w fun e w' => e = .returned (v0 4 false 0 s) ∧ Below w.heap.size w w' := by
  have hr : (w.alloc (.cells #[.int .i64 0, .bool false, .int .i64 0, .string ⟨#[]⟩, .slice none 0 0, .slice none 0 0] 46)).heap[w.heap.size]? = some (.cells #[.int .i64 0, .bool false, .int .i64 0, .string ⟨#[]⟩, .slice none 0 0, .slice none 0 0] 46 (0, 0)) := heap_alloc_new w _
  have hb0 : Below w.heap.size w (w.alloc (.cells #[.int .i64 0, .bool false, .int .i64 0, .string ⟨#[]⟩, .slice none 0 0, .slice none 0 0] 46)) := (Below.refl _ w).alloc (Nat.le_refl _) _
  obtain ⟨W0, hW0⟩ : ∃ W0, w.alloc (.cells #[.int .i64 0, .bool false, .int .i64 0, .string ⟨#[]⟩, .slice none 0 0, .slice none 0 0] 46) = W0 := ⟨_, rfl⟩
  rw [hW0] at hr hb0
  obtain ⟨r0, r1, r2, r3, r4, r5⟩ := six_box hr
  have rf0 := frozen_box hr 0
  have rf1 := frozen_box hr 1
  have rf2 := frozen_box hr 2
  have rf3 := frozen_box hr 3
  have rf4 := frozen_box hr 4
  have rf5 := frozen_box hr 5
  go_enter Tryz.func86, Tryz.ntmps86
  go_wp2_with fail
  obtain ⟨W9, hW9⟩ : ∃ W9, ((((((W0.setCell ⟨w.heap.size, 0, none⟩ (.int .i64 4)).setCell ⟨w.heap.size, 1, none⟩ (.bool false)).setCell ⟨w.heap.size, 2, none⟩ (.int .i64 0)).setCell ⟨w.heap.size, 3, none⟩ (.string s)).setCell ⟨w.heap.size, 4, none⟩ (.slice none 0 0)).setCell ⟨w.heap.size, 5, none⟩ (.slice none 0 0)) = W9 := ⟨_, rfl⟩
  rw [hW9]
  obtain ⟨q1, q2, q3, q4⟩ := set6 _ _ _ _ _ _ hr hW9
  refine bodyPost_ret (results_cell_row rfl _ W9 (w.heap.size) 46 _ (0, 0) _ rfl q1 Tryz.underlying46 rfl (by kernel_rfl)) rfl ?_
  exact ⟨rfl, q4 _ _ (Nat.le_refl _) hb0⟩
theorem must_t (w : World) : Calls Tryz.prog 100 #[.bool true] w fun e w' => (∃ v, e = .returned v) ∧ w' = w := by
  go_enter Tryz.func100, Tryz.ntmps100
  go_wp2_with fail
  go_end0
  exact ⟨⟨_, rfl⟩, rfl⟩
theorem must_f (w : World) : Calls Tryz.prog 100 #[.bool false] w fun e w' => e = .panicked (pkE 1101) ∧ w' = w := by
  unfold pkE
  go_enter Tryz.func100, Tryz.ntmps100
  go_wp2_with fail
  exact ⟨rfl, rfl, rfl⟩
/-- What a function that gives a Go value answers. -/
def An {α : Type} (w w' : World) (e : Ending) (f : α → Value) : Except Nat α → Prop
  | .ok x => e = .returned (f x) ∧ Below w.heap.size w w'
  | .error c => e = .panicked (pkE c) ∧ Below w.heap.size w w'
theorem isTrue_c (k : Int) (b : Bool) (i : Int) (s : ByteArray) (nv lv : Value) (w : World) : Calls Tryz.prog 80 #[vl k b i s nv lv] w fun e w' => An w w' e (Value.bool) (if k = 2 then .ok b else .error 1101) := by
  have hp : (w.alloc (.cells #[.int .i64 k, .bool b, .int .i64 i, .string s, nv, lv] 46)).heap[w.heap.size]? = some (.cells #[.int .i64 k, .bool b, .int .i64 i, .string s, nv, lv] 46 (0, 0)) := heap_alloc_new w _
  have hb0 : Below w.heap.size w (w.alloc (.cells #[.int .i64 k, .bool b, .int .i64 i, .string s, nv, lv] 46)) := (Below.refl _ w).alloc (Nat.le_refl _) _
  obtain ⟨W0, hW0⟩ : ∃ W0, w.alloc (.cells #[.int .i64 k, .bool b, .int .i64 i, .string s, nv, lv] 46) = W0 := ⟨_, rfl⟩
  rw [hW0] at hp hb0
  obtain ⟨p0, p1, p2, p3, p4, p5⟩ := six_box hp
  by_cases h : k = 2
  · subst h
    rw [if_pos rfl]
    have c := must_t W0
    have HB : Hid (Below w.heap.size w W0) := hb0
    clear hb0 hp
    go_enter Tryz.func80, Tryz.ntmps80
    go_wp2_with fail
    try rw [hW0]
    refine c.mono ?_
    rintro e w' ⟨⟨v, rfl⟩, rfl⟩
    go_wp2_with fail
    go_ret
    exact ⟨rfl, HB.out⟩
  · rw [if_neg h]
    have d : (k == 2) = false := by simp [h]
    have c := must_f W0
    have HB : Hid (Below w.heap.size w W0) := hb0
    clear hb0 hp h
    go_enter Tryz.func80, Tryz.ntmps80
    go_wp2_with fail
    try rw [hW0]
    refine c.mono ?_
    rintro e w' ⟨rfl, rfl⟩
    exact ⟨rfl, rfl, HB.out⟩
theorem integer_c (k : Int) (b : Bool) (i : Int) (s : ByteArray) (nv lv : Value) (w : World) : Calls Tryz.prog 130 #[vl k b i s nv lv] w fun e w' => An w w' e (Value.int .i64) (if k = 3 then .ok i else .error 1101) := by
  have hp : (w.alloc (.cells #[.int .i64 k, .bool b, .int .i64 i, .string s, nv, lv] 46)).heap[w.heap.size]? = some (.cells #[.int .i64 k, .bool b, .int .i64 i, .string s, nv, lv] 46 (0, 0)) := heap_alloc_new w _
  have hb0 : Below w.heap.size w (w.alloc (.cells #[.int .i64 k, .bool b, .int .i64 i, .string s, nv, lv] 46)) := (Below.refl _ w).alloc (Nat.le_refl _) _
  obtain ⟨W0, hW0⟩ : ∃ W0, w.alloc (.cells #[.int .i64 k, .bool b, .int .i64 i, .string s, nv, lv] 46) = W0 := ⟨_, rfl⟩
  rw [hW0] at hp hb0
  obtain ⟨p0, p1, p2, p3, p4, p5⟩ := six_box hp
  by_cases h : k = 3
  · subst h
    rw [if_pos rfl]
    have c := must_t W0
    have HB : Hid (Below w.heap.size w W0) := hb0
    clear hb0 hp
    go_enter Tryz.func130, Tryz.ntmps130
    go_wp2_with fail
    try rw [hW0]
    refine c.mono ?_
    rintro e w' ⟨⟨v, rfl⟩, rfl⟩
    go_wp2_with fail
    go_ret
    exact ⟨rfl, HB.out⟩
  · rw [if_neg h]
    have d : (k == 3) = false := by simp [h]
    have c := must_f W0
    have HB : Hid (Below w.heap.size w W0) := hb0
    clear hb0 hp h
    go_enter Tryz.func130, Tryz.ntmps130
    go_wp2_with fail
    try rw [hW0]
    refine c.mono ?_
    rintro e w' ⟨rfl, rfl⟩
    exact ⟨rfl, rfl, HB.out⟩
theorem checked_c (x e0 : Int) (w : World) : Calls Tryz.prog 105 #[.int .i64 x, .int .i64 e0] w fun e w' => An w w' e (fun c : Int => v0 3 false c ⟨#[]⟩) (if e0 = 100 then .error 1102 else if e0 = 101 then .error 1103 else if e0 = 102 then .error 1104 else .ok x) := by
  have hr : (w.alloc (.cells #[.int .i64 0, .bool false, .int .i64 0, .string ⟨#[]⟩, .slice none 0 0, .slice none 0 0] 46)).heap[w.heap.size]? = some (.cells #[.int .i64 0, .bool false, .int .i64 0, .string ⟨#[]⟩, .slice none 0 0, .slice none 0 0] 46 (0, 0)) := heap_alloc_new w _
  have hb0 : Below w.heap.size w (w.alloc (.cells #[.int .i64 0, .bool false, .int .i64 0, .string ⟨#[]⟩, .slice none 0 0, .slice none 0 0] 46)) := (Below.refl _ w).alloc (Nat.le_refl _) _
  have hs0 : (w.alloc (.cells #[.int .i64 0, .bool false, .int .i64 0, .string ⟨#[]⟩, .slice none 0 0, .slice none 0 0] 46)).heap.size = w.heap.size + 1 := by simp
  obtain ⟨W0, hW0⟩ : ∃ W0, w.alloc (.cells #[.int .i64 0, .bool false, .int .i64 0, .string ⟨#[]⟩, .slice none 0 0, .slice none 0 0] 46) = W0 := ⟨_, rfl⟩
  rw [hW0] at hr hb0 hs0
  by_cases h0 : e0 = 100
  · subst h0
    rw [if_pos rfl]
    show Calls _ _ _ _ fun e w' => An w w' e _ (.error 1102)
    unfold An pkE
    have HB : Hid (Below w.heap.size w W0) := hb0
    clear hb0 hr
    go_enter Tryz.func105, Tryz.ntmps105
    go_wp2_with fail
    try rw [hW0]
    exact ⟨rfl, rfl, HB.out⟩
  by_cases h1 : e0 = 101
  · subst h1
    rw [if_neg (by decide)]
    rw [if_pos rfl]
    show Calls _ _ _ _ fun e w' => An w w' e _ (.error 1103)
    unfold An pkE
    have HB : Hid (Below w.heap.size w W0) := hb0
    clear hb0 hr
    go_enter Tryz.func105, Tryz.ntmps105
    go_wp2_with fail
    try rw [hW0]
    exact ⟨rfl, rfl, HB.out⟩
  by_cases h2 : e0 = 102
  · subst h2
    rw [if_neg (by decide)]
    rw [if_neg (by decide)]
    rw [if_pos rfl]
    show Calls _ _ _ _ fun e w' => An w w' e _ (.error 1104)
    unfold An pkE
    have HB : Hid (Below w.heap.size w W0) := hb0
    clear hb0 hr
    go_enter Tryz.func105, Tryz.ntmps105
    go_wp2_with fail
    try rw [hW0]
    exact ⟨rfl, rfl, HB.out⟩
  rw [if_neg h0, if_neg h1, if_neg h2]
  have d0 : (e0 == 100) = false := by simp [h0]
  have d1 : (e0 == 101) = false := by simp [h1]
  have d2 : (e0 == 102) = false := by simp [h2]
  have c := number_c x W0
  have HR : Hid (W0.heap[w.heap.size]? = some (.cells #[.int .i64 0, .bool false, .int .i64 0, .string ⟨#[]⟩, .slice none 0 0, .slice none 0 0] 46 (0, 0))) := hr
  have HB : Hid (Below w.heap.size w W0) := hb0
  clear hb0 hr h0 h1 h2
  go_enter Tryz.func105, Tryz.ntmps105
  go_wp2_with fail
  try rw [hW0]
  refine c.mono ?_
  rintro e W1 ⟨rfl, hb1⟩
  have hr := (hb1.block w.heap.size (by omega)).trans HR.out
  have HB1 : Hid (Below w.heap.size w W1) := HB.out.trans (hb1.mono HB.out.size)
  clear hb1 c
  obtain ⟨r0, r1, r2, r3, r4, r5⟩ := six_box hr
  have rf0 := frozen_box hr 0
  have rf1 := frozen_box hr 1
  have rf2 := frozen_box hr 2
  have rf3 := frozen_box hr 3
  have rf4 := frozen_box hr 4
  have rf5 := frozen_box hr 5
  go_wp2_with fail
  obtain ⟨W9, hW9⟩ : ∃ W9, ((((((W1.setCell ⟨w.heap.size, 0, none⟩ (.int .i64 3)).setCell ⟨w.heap.size, 1, none⟩ (.bool false)).setCell ⟨w.heap.size, 2, none⟩ (.int .i64 x)).setCell ⟨w.heap.size, 3, none⟩ (.string ⟨#[]⟩)).setCell ⟨w.heap.size, 4, none⟩ (.slice none 0 0)).setCell ⟨w.heap.size, 5, none⟩ (.slice none 0 0)) = W9 := ⟨_, rfl⟩
  rw [hW9]
  obtain ⟨q1, q2, q3, q4⟩ := set6 _ _ _ _ _ _ hr hW9
  refine bodyPost_ret (results_cell_row rfl _ W9 (w.heap.size) 46 _ (0, 0) _ rfl q1 Tryz.underlying46 rfl (by kernel_rfl)) rfl ?_
  exact ⟨rfl, q4 _ _ (Nat.le_refl _) HB1.out⟩
end Go.Proofs.YthjbknncbhkinaaGreatDoor.VSm

namespace Go.Proofs.YthjbknncbhkinaaGreatDoor.VIn
open Go.Proofs.YthjbknncbhkinaaGreatDoor.Tak
open Go.RowKit Go.Proofs.YthjbknncbhkinaaGreatDoor.Base Go.Proofs.YthjbknncbhkinaaGreatDoor.EPure Go.Proofs.YthjbknncbhkinaaGreatDoor.VPure Go.Proofs.YthjbknncbhkinaaGreatDoor.VSm
set_option linter.unusedVariables false

theorem bel_d {w W0 W1 : World} (h : Below w.heap.size w W0) (k : Below W0.drew.heap.size W0.drew W1) : Below w.heap.size w W1 :=
  (⟨h.os, h.tape, h.output, h.size, h.block⟩ : Below w.heap.size w W0.drew).trans (k.mono h.size)
set_option maxRecDepth 20000 in
set_option maxHeartbeats 1600000 in
theorem integers_c (k1 : Int) (b1 : Bool) (i1 : Int) (s1 : ByteArray) (n1 l1 : Value) (k2 : Int) (b2 : Bool) (i2 : Int) (s2 : ByteArray) (n2 l2 : Value) (w : World) : Calls Tryz.prog 107 #[vl k1 b1 i1 s1 n1 l1, vl k2 b2 i2 s2 n2 l2] w fun e w' => An w w' e (fun p : Int × Int => .tuple #[.int .i64 p.1, .int .i64 p.2]) (if k1 = 3 then (if k2 = 3 then .ok (i1, i2) else .error 1101) else .error 1101) := by
  obtain ⟨W0, hW0, hs0, hb0, hp, hq⟩ := two2 w #[.int .i64 k1, .bool b1, .int .i64 i1, .string s1, n1, l1] #[.int .i64 k2, .bool b2, .int .i64 i2, .string s2, n2, l2]
  have HP : Hid (W0.heap[w.heap.size]? = some (.cells #[.int .i64 k1, .bool b1, .int .i64 i1, .string s1, n1, l1] 46 (0, 0))) := hp
  have HQ : Hid (W0.heap[w.heap.size + 1]? = some (.cells #[.int .i64 k2, .bool b2, .int .i64 i2, .string s2, n2, l2] 46 (0, 0))) := hq
  have HB : Hid (Below w.heap.size w W0) := hb0
  have hsD : W0.drew.heap.size = w.heap.size + 2 := by simp [hs0]
  obtain ⟨p0, p1, p2, p3, p4, p5⟩ := six_box hp
  obtain ⟨q0, q1, q2, q3, q4, q5⟩ := six_box hq
  clear hp hq hb0
  have c1 := fun W => integer_c k1 b1 i1 s1 n1 l1 W
  have c2 := fun W => integer_c k2 b2 i2 s2 n2 l2 W
  by_cases h1 : k1 = 3
  · rw [if_pos h1] at c1
    rw [if_pos h1]
    clear h1
    by_cases h2 : k2 = 3
    · rw [if_pos h2] at c2
      rw [if_pos h2]
      clear h2
      go_enter Tryz.func107, Tryz.ntmps107
      go_wp2_with fail
      try rw [hW0]
      refine wp_region_held_drew (S := fun w' => (w'.cell? ⟨w.heap.size, 0, none⟩ = some (.int .i64 k1) ∧ w'.cell? ⟨w.heap.size, 1, none⟩ = some (.bool b1) ∧ w'.cell? ⟨w.heap.size, 2, none⟩ = some (.int .i64 i1) ∧ w'.cell? ⟨w.heap.size, 3, none⟩ = some (.string s1) ∧ w'.cell? ⟨w.heap.size, 4, none⟩ = some (n1) ∧ w'.cell? ⟨w.heap.size, 5, none⟩ = some (l1)) ∧ (w'.cell? ⟨w.heap.size + 1, 0, none⟩ = some (.int .i64 k2) ∧ w'.cell? ⟨w.heap.size + 1, 1, none⟩ = some (.bool b2) ∧ w'.cell? ⟨w.heap.size + 1, 2, none⟩ = some (.int .i64 i2) ∧ w'.cell? ⟨w.heap.size + 1, 3, none⟩ = some (.string s2) ∧ w'.cell? ⟨w.heap.size + 1, 4, none⟩ = some (n2) ∧ w'.cell? ⟨w.heap.size + 1, 5, none⟩ = some (l2))) (by kernel_rfl) (by first | assumption | go_keep) (fun hHeld => ?_)
      refine tkH 0 rfl ?_; try simp only [ptH]
      refine tkH 2 rfl ?_; try simp only [ptH]
      refine rdH [1] ?_
      refine alH rfl fun K hK => ?_
      go_simp
      refine (c1 _).mono ?_
      rintro e W1 ⟨rfl, hb1⟩
      have hp1 := (hb1.block w.heap.size (by rw [hsD]; omega)).trans HP.out
      have hq1 := (hb1.block (w.heap.size + 1) (by rw [hsD]; omega)).trans HQ.out
      obtain ⟨x0, x1, x2, x3, x4, x5⟩ := six_box hp1
      obtain ⟨y0, y1, y2, y3, y4, y5⟩ := six_box hq1
      have HB1 : Hid (Below w.heap.size w W1) := bel_d HB.out hb1
      have HP1 : Hid _ := hp1
      have HQ1 : Hid _ := hq1
      have hs1 := hb1.size
      rw [hsD] at hs1
      clear hp1 hq1 hb1
      go_wp2_with fail
      refine hK.out _ _ (by first | assumption | go_keep) (fun hHeld => ?_)
      clear hK K
      try simp only [ptH]
      refine rdH [3] ?_
      refine alH rfl fun K hK => ?_
      go_simp
      refine (c2 _).mono ?_
      rintro e W2 ⟨rfl, hb2⟩
      obtain ⟨z0, z1, z2, z3, z4, z5⟩ := six_box ((hb2.block w.heap.size (by omega)).trans HP1.out)
      obtain ⟨t0, t1, t2, t3, t4, t5⟩ := six_box ((hb2.block (w.heap.size + 1) (by omega)).trans HQ1.out)
      have HB2 : Hid (Below w.heap.size w W2) := HB1.out.trans (hb2.mono HB1.out.size)
      clear hb2
      go_wp2_with fail
      refine hK.out _ _ (by first | assumption | go_keep) (fun hHeld => ?_)
      clear hK K
      try simp only [ptH]
      refine tkH 4 rfl ?_; try simp only [ptH]
      refine tkH 5 rfl ?_; try simp only [ptH]
      refine dnH ?_
      go_wp2_with fail
      go_ret2
      exact ⟨rfl, HB2.out⟩
    · rw [if_neg h2] at c2
      rw [if_neg h2]
      clear h2
      go_enter Tryz.func107, Tryz.ntmps107
      go_wp2_with fail
      try rw [hW0]
      refine wp_region_held_drew (S := fun w' => (w'.cell? ⟨w.heap.size, 0, none⟩ = some (.int .i64 k1) ∧ w'.cell? ⟨w.heap.size, 1, none⟩ = some (.bool b1) ∧ w'.cell? ⟨w.heap.size, 2, none⟩ = some (.int .i64 i1) ∧ w'.cell? ⟨w.heap.size, 3, none⟩ = some (.string s1) ∧ w'.cell? ⟨w.heap.size, 4, none⟩ = some (n1) ∧ w'.cell? ⟨w.heap.size, 5, none⟩ = some (l1)) ∧ (w'.cell? ⟨w.heap.size + 1, 0, none⟩ = some (.int .i64 k2) ∧ w'.cell? ⟨w.heap.size + 1, 1, none⟩ = some (.bool b2) ∧ w'.cell? ⟨w.heap.size + 1, 2, none⟩ = some (.int .i64 i2) ∧ w'.cell? ⟨w.heap.size + 1, 3, none⟩ = some (.string s2) ∧ w'.cell? ⟨w.heap.size + 1, 4, none⟩ = some (n2) ∧ w'.cell? ⟨w.heap.size + 1, 5, none⟩ = some (l2))) (by kernel_rfl) (by first | assumption | go_keep) (fun hHeld => ?_)
      refine tkH 0 rfl ?_; try simp only [ptH]
      refine tkH 2 rfl ?_; try simp only [ptH]
      refine rdH [1] ?_
      refine alH rfl fun K hK => ?_
      go_simp
      refine (c1 _).mono ?_
      rintro e W1 ⟨rfl, hb1⟩
      have hp1 := (hb1.block w.heap.size (by rw [hsD]; omega)).trans HP.out
      have hq1 := (hb1.block (w.heap.size + 1) (by rw [hsD]; omega)).trans HQ.out
      obtain ⟨x0, x1, x2, x3, x4, x5⟩ := six_box hp1
      obtain ⟨y0, y1, y2, y3, y4, y5⟩ := six_box hq1
      have HB1 : Hid (Below w.heap.size w W1) := bel_d HB.out hb1
      have HP1 : Hid _ := hp1
      have HQ1 : Hid _ := hq1
      have hs1 := hb1.size
      rw [hsD] at hs1
      clear hp1 hq1 hb1
      go_wp2_with fail
      refine hK.out _ _ (by first | assumption | go_keep) (fun hHeld => ?_)
      clear hK K
      try simp only [ptH]
      refine rdH [3] ?_
      refine alH rfl fun K hK => ?_
      go_simp
      refine (c2 _).mono ?_
      rintro e W2 ⟨rfl, hb2⟩
      exact ⟨rfl, rfl, HB1.out.trans (hb2.mono HB1.out.size)⟩
  · rw [if_neg h1] at c1
    rw [if_neg h1]
    clear h1
    go_enter Tryz.func107, Tryz.ntmps107
    go_wp2_with fail
    try rw [hW0]
    refine wp_region_held_drew (S := fun w' => (w'.cell? ⟨w.heap.size, 0, none⟩ = some (.int .i64 k1) ∧ w'.cell? ⟨w.heap.size, 1, none⟩ = some (.bool b1) ∧ w'.cell? ⟨w.heap.size, 2, none⟩ = some (.int .i64 i1) ∧ w'.cell? ⟨w.heap.size, 3, none⟩ = some (.string s1) ∧ w'.cell? ⟨w.heap.size, 4, none⟩ = some (n1) ∧ w'.cell? ⟨w.heap.size, 5, none⟩ = some (l1)) ∧ (w'.cell? ⟨w.heap.size + 1, 0, none⟩ = some (.int .i64 k2) ∧ w'.cell? ⟨w.heap.size + 1, 1, none⟩ = some (.bool b2) ∧ w'.cell? ⟨w.heap.size + 1, 2, none⟩ = some (.int .i64 i2) ∧ w'.cell? ⟨w.heap.size + 1, 3, none⟩ = some (.string s2) ∧ w'.cell? ⟨w.heap.size + 1, 4, none⟩ = some (n2) ∧ w'.cell? ⟨w.heap.size + 1, 5, none⟩ = some (l2))) (by kernel_rfl) (by first | assumption | go_keep) (fun hHeld => ?_)
    refine tkH 0 rfl ?_; try simp only [ptH]
    refine tkH 2 rfl ?_; try simp only [ptH]
    refine rdH [1] ?_
    refine alH rfl fun K hK => ?_
    go_simp
    refine (c1 _).mono ?_
    rintro e W1 ⟨rfl, hb1⟩
    exact ⟨rfl, rfl, bel_d HB.out hb1⟩
end Go.Proofs.YthjbknncbhkinaaGreatDoor.VIn

namespace Go.Proofs.YthjbknncbhkinaaGreatDoor.VEx
open Go.RowKit
set_option linter.unusedVariables false

theorem ex_then {K : Act → World → Prop} {Q : Exit → Act → World → Prop} {n : Nat} {a : Act} {w : World} (h : Q (.exit n) a w) : Exit.then K Q (.exit n) a w := h
theorem ex_skip {m n : Nat} {Q : Exit → Act → World → Prop} {a : Act} {w : World} (hn : ¬ n = m) (h : Q (.exit n) a w) : Exit.inBlock m Q (.exit n) a w := by
  show (if n = m then Q .normal a w else Q (.exit n) a w)
  rw [if_neg hn]
  exact h
theorem ex_hit {n : Nat} {Q : Exit → Act → World → Prop} {a : Act} {w : World} (h : Q .normal a w) : Exit.inBlock n Q (.exit n) a w := by
  show (if n = n then Q .normal a w else Q (.exit n) a w)
  rw [if_pos rfl]
  exact h
theorem ex_norm {K : Act → World → Prop} {Q : Exit → Act → World → Prop} {a : Act} {w : World} (h : K a w) : Exit.then K Q .normal a w := h
theorem rt_then {K : Act → World → Prop} {Q : Exit → Act → World → Prop} {a : Act} {w : World} (h : Q .ret a w) : Exit.then K Q .ret a w := h
theorem rt_blk {m : Nat} {Q : Exit → Act → World → Prop} {a : Act} {w : World} (h : Q .ret a w) : Exit.inBlock m Q .ret a w := h
theorem pn_then {K : Act → World → Prop} {Q : Exit → Act → World → Prop} {c : List PanicEntry} {a : Act} {w : World} (h : Q (.panic c) a w) : Exit.then K Q (.panic c) a w := h
theorem pn_blk {m : Nat} {Q : Exit → Act → World → Prop} {c : List PanicEntry} {a : Act} {w : World} (h : Q (.panic c) a w) : Exit.inBlock m Q (.panic c) a w := h
/-- Only by returning or by a panic. -/
def Out (B : Exit → Act → World → Prop) : Exit → Act → World → Prop
  | .ret, a, w => B .ret a w
  | .panic c, a, w => B (.panic c) a w
  | _, _, _ => False
theorem out_mono {B Q : Exit → Act → World → Prop} (hr : ∀ a w, B .ret a w → Q .ret a w) (hp : ∀ c a w, B (.panic c) a w → Q (.panic c) a w) : ∀ e a w, Out B e a w → Q e a w := by
  intro e a w h
  cases e with
  | ret => exact hr a w h
  | panic c => exact hp c a w h
  | _ => exact h.elim
theorem out_ret {P : Program} {fn : Func} {R : Ending → World → Prop} {a : Act} {w : World} {v : Value} (hr : (results fn a.tmps).run P w = .ok v w) (hd : a.defers = []) (hR : R (.returned v) w) : Out (bodyPost P fn R) .ret a w := bodyPost_ret hr hd hR
end Go.Proofs.YthjbknncbhkinaaGreatDoor.VEx

/- What was lent is as it was: parts, fields, cores. -/
import Derived.Test.YtofjedecjlodmaaGreatKBase
import Derived.Test.YtofjedecjlodmaaGreatXKept
import Derived.Deep.RegionWith
namespace Go.Proofs.YtofjedecjlodmaaGreat.KKp
open Go.RowKit Go.Proofs.YtofjedecjlodmaaGreat.EPure Go.Proofs.YtofjedecjlodmaaGreat.KBase
open Go.Proofs.YtofjedecjlodmaaGreat.Base (nx All heap_alloc_new add_none)
set_option linter.unusedVariables false

theorem zero_c (w : World) : Calls Tryz.prog 73 #[.agg #[.int .i64 0, .int .i64 0, .string ⟨#[]⟩, .slice none 0 0], .agg #[.int .i64 0, .int .i64 0, .string ⟨#[]⟩, .slice none 0 0]] w
    fun e w' => e = .returned (.bool true) ∧ Below w.heap.size w w' := by
  have h := XBase.In.leaf w 0 All 0 0 ⟨#[]⟩ (by omega) (by omega) (by decide)
  have c := XSm.same_c h h
  rw [show XSm.smL [.mk 0 0 ⟨#[]⟩ []] [.mk 0 0 ⟨#[]⟩ []] = true by rw [XSm.smL_one, XSm.smL_nil]; simp] at c
  exact c
theorem roomP {w : World} {g o : Nat} (h : Pt6 w g o rmP) : w.cell? ⟨g, o, none⟩ = some (.string Base.room) ∧ w.cell? ⟨g, o + 1, none⟩ = some (.bool false) ∧ w.cell? ⟨g, o + 2, none⟩ = some (.int .i64 0) ∧ w.cell? ⟨g, o + 3, none⟩ = some (.int .i64 0) ∧ w.cell? ⟨g, o + 4, none⟩ = some (.string ⟨#[]⟩) ∧ w.cell? ⟨g, o + 5, none⟩ = some (.slice none 0 0) := by
  obtain ⟨p0, p1, p2, p3, p4, p5, E, h⟩ := h
  simp only [rmP, Value.agg.injEq, Array.mk.injEq, List.cons.injEq, and_true] at E
  obtain ⟨rfl, rfl, rfl, rfl, rfl, rfl⟩ := E
  exact h
theorem belowP {w w' : World} {g o : Nat} {v : Value} (h : Pt6 w g o v) (hb : Below w.heap.size w w') : Pt6 w' g o v := Keep.pt (S := All) (Base.Keep.of_below hb) trivial h
theorem roomF {w : World} {g o : Nat} (h : Fd8 w g o rmF) : w.cell? ⟨g, o, none⟩ = some (.string Base.room) ∧ w.cell? ⟨g, o + 1, none⟩ = some (.string ⟨#[]⟩) ∧ w.cell? ⟨g, o + 2, none⟩ = some (.bool false) ∧ w.cell? ⟨g, o + 3, none⟩ = some (.int .i64 0) ∧ w.cell? ⟨g, o + 4, none⟩ = some (.int .i64 0) ∧ w.cell? ⟨g, o + 5, none⟩ = some (.string ⟨#[]⟩) ∧ w.cell? ⟨g, o + 6, none⟩ = some (.slice none 0 0) ∧ w.cell? ⟨g, o + 7, none⟩ = some (.int .i64 0) := by
  obtain ⟨p0, p1, p2, p3, p4, p5, p6, p7, E, h⟩ := h
  simp only [rmF, Value.agg.injEq, Array.mk.injEq, List.cons.injEq, and_true] at E
  obtain ⟨rfl, rfl, rfl, rfl, rfl, rfl, rfl, rfl⟩ := E
  exact h
theorem belowF {w w' : World} {g o : Nat} {v : Value} (h : Fd8 w g o v) (hb : Below w.heap.size w w') : Fd8 w' g o v := Keep.fd (S := All) (Base.Keep.of_below hb) trivial h
theorem roomC {w : World} {g o : Nat} (h : Co7 w g o rmC) : w.cell? ⟨g, o, none⟩ = some (.int .i64 (-7)) ∧ w.cell? ⟨g, o + 1, none⟩ = some (.string ⟨#[]⟩) ∧ w.cell? ⟨g, o + 2, none⟩ = some (.slice none 0 0) ∧ w.cell? ⟨g, o + 3, none⟩ = some (.slice none 0 0) ∧ w.cell? ⟨g, o + 4, none⟩ = some (.slice none 0 0) ∧ w.cell? ⟨g, o + 5, none⟩ = some (.slice none 0 0) ∧ w.cell? ⟨g, o + 6, none⟩ = some (.slice none 0 0) := by
  obtain ⟨p0, p1, p2, p3, p4, p5, p6, E, h⟩ := h
  simp only [rmC, Value.agg.injEq, Array.mk.injEq, List.cons.injEq, and_true] at E
  obtain ⟨rfl, rfl, rfl, rfl, rfl, rfl, rfl⟩ := E
  exact h
theorem belowC {w w' : World} {g o : Nat} {v : Value} (h : Co7 w g o v) (hb : Below w.heap.size w w') : Co7 w' g o v := Keep.co (S := All) (Base.Keep.of_below hb) trivial h
set_option maxRecDepth 20000 in
set_option maxHeartbeats 1600000 in
theorem sameRP (w : World) : Calls Tryz.prog 72 #[.agg #[.string Base.room, .bool false, .int .i64 0, .int .i64 0, .string ⟨#[]⟩, .slice none 0 0], .agg #[.string Base.room, .bool false, .int .i64 0, .int .i64 0, .string ⟨#[]⟩, .slice none 0 0]] w fun e w' => e = .returned (.bool true) ∧ Below w.heap.size w w' := by
  obtain ⟨W0, hW0⟩ : ∃ W0, (w.alloc (.cells #[.string Base.room, .bool false, .int .i64 0, .int .i64 0, .string ⟨#[]⟩, .slice none 0 0] 60)).alloc (.cells #[.string Base.room, .bool false, .int .i64 0, .int .i64 0, .string ⟨#[]⟩, .slice none 0 0] 60) = W0 := ⟨_, rfl⟩
  have hb0 : Below w.heap.size w W0 := by rw [← hW0]; exact ((Below.refl _ w).alloc (Nat.le_refl _) _).alloc (by simp) _
  have hsz0 : W0.heap.size = w.heap.size + 2 := by rw [← hW0]; simp
  have hx0 : W0.heap[w.heap.size]? = some (.cells #[.string Base.room, .bool false, .int .i64 0, .int .i64 0, .string ⟨#[]⟩, .slice none 0 0] 60) := by
    rw [← hW0, Below.heap_alloc _ _ _ (by simp), heap_alloc_new]
  have hx1 : W0.heap[w.heap.size + 1]? = some (.cells #[.string Base.room, .bool false, .int .i64 0, .int .i64 0, .string ⟨#[]⟩, .slice none 0 0] 60) := by
    have := heap_alloc_new (w.alloc (.cells #[.string Base.room, .bool false, .int .i64 0, .int .i64 0, .string ⟨#[]⟩, .slice none 0 0] 60)) (.cells #[.string Base.room, .bool false, .int .i64 0, .int .i64 0, .string ⟨#[]⟩, .slice none 0 0] 60)
    rwa [hW0, World.size_alloc] at this
  obtain ⟨d0, d1, d2, d3, d4, d5⟩ := Base.six_box hx0
  obtain ⟨e0, e1, e2, e3, e4, e5⟩ := Base.six_box hx1
  have cE := zero_c W0
  clear hx0 hx1
  go_enter Tryz.func72, Tryz.ntmps72
  go_wp2_with fail
  refine cE.mono ?_
  rintro e w2 ⟨rfl, b2⟩
  go_wp2_with fail
  go_ret
  exact ⟨rfl, nx hb0 b2⟩
set_option maxRecDepth 20000 in
set_option maxHeartbeats 1600000 in
theorem sameRF (w : World) : Calls Tryz.prog 71 #[.agg #[.string Base.room, .string ⟨#[]⟩, .bool false, .int .i64 0, .int .i64 0, .string ⟨#[]⟩, .slice none 0 0, .int .i64 0], .agg #[.string Base.room, .string ⟨#[]⟩, .bool false, .int .i64 0, .int .i64 0, .string ⟨#[]⟩, .slice none 0 0, .int .i64 0]] w fun e w' => e = .returned (.bool true) ∧ Below w.heap.size w w' := by
  obtain ⟨W0, hW0⟩ : ∃ W0, (w.alloc (.cells #[.string Base.room, .string ⟨#[]⟩, .bool false, .int .i64 0, .int .i64 0, .string ⟨#[]⟩, .slice none 0 0, .int .i64 0] 79)).alloc (.cells #[.string Base.room, .string ⟨#[]⟩, .bool false, .int .i64 0, .int .i64 0, .string ⟨#[]⟩, .slice none 0 0, .int .i64 0] 79) = W0 := ⟨_, rfl⟩
  have hb0 : Below w.heap.size w W0 := by rw [← hW0]; exact ((Below.refl _ w).alloc (Nat.le_refl _) _).alloc (by simp) _
  have hsz0 : W0.heap.size = w.heap.size + 2 := by rw [← hW0]; simp
  have hx0 : W0.heap[w.heap.size]? = some (.cells #[.string Base.room, .string ⟨#[]⟩, .bool false, .int .i64 0, .int .i64 0, .string ⟨#[]⟩, .slice none 0 0, .int .i64 0] 79) := by
    rw [← hW0, Below.heap_alloc _ _ _ (by simp), heap_alloc_new]
  have hx1 : W0.heap[w.heap.size + 1]? = some (.cells #[.string Base.room, .string ⟨#[]⟩, .bool false, .int .i64 0, .int .i64 0, .string ⟨#[]⟩, .slice none 0 0, .int .i64 0] 79) := by
    have := heap_alloc_new (w.alloc (.cells #[.string Base.room, .string ⟨#[]⟩, .bool false, .int .i64 0, .int .i64 0, .string ⟨#[]⟩, .slice none 0 0, .int .i64 0] 79)) (.cells #[.string Base.room, .string ⟨#[]⟩, .bool false, .int .i64 0, .int .i64 0, .string ⟨#[]⟩, .slice none 0 0, .int .i64 0] 79)
    rwa [hW0, World.size_alloc] at this
  obtain ⟨d0, d1, d2, d3, d4, d5, d6, d7⟩ := eight_box hx0
  obtain ⟨e0, e1, e2, e3, e4, e5, e6, e7⟩ := eight_box hx1
  have cE := zero_c W0
  have HX0 : Hid (W0.heap[w.heap.size]? = some (.cells #[.string Base.room, .string ⟨#[]⟩, .bool false, .int .i64 0, .int .i64 0, .string ⟨#[]⟩, .slice none 0 0, .int .i64 0] 79)) := hx0
  have HX1 : Hid (W0.heap[w.heap.size + 1]? = some (.cells #[.string Base.room, .string ⟨#[]⟩, .bool false, .int .i64 0, .int .i64 0, .string ⟨#[]⟩, .slice none 0 0, .int .i64 0] 79)) := hx1
  clear hx0 hx1
  go_enter Tryz.func71, Tryz.ntmps71
  go_wp2_with fail
  refine cE.mono ?_
  rintro e w2 ⟨rfl, b2⟩
  have k0 := (b2.block w.heap.size (by omega)).trans HX0.out
  have k1 := (b2.block (w.heap.size + 1) (by omega)).trans HX1.out
  obtain ⟨d0, d1, d2, d3, d4, d5, d6, d7⟩ := eight_box k0
  obtain ⟨e0, e1, e2, e3, e4, e5, e6, e7⟩ := eight_box k1
  go_wp2_with fail
  go_ret
  exact ⟨rfl, nx hb0 b2⟩
set_option maxRecDepth 20000 in
theorem nilFields (w : World) : Calls Tryz.prog 46 #[.slice none 0 0, .slice none 0 0] w fun e w' => e = .returned (.bool true) ∧ Below w.heap.size w w' := by
  go_enter Tryz.func46, Tryz.ntmps46
  go_wp2_with fail
  go_loopw [5] (fun i wr => i = .int .i64 0 ∧ wr = w) (fun _ _ => 0)
  case atStart => exact ⟨rfl, rfl⟩
  case round =>
    obtain ⟨rfl, rfl⟩ := hrel
    go_wp2_with fail
    go_ret
    exact ⟨rfl, Below.refl _ _⟩
set_option maxRecDepth 20000 in
theorem nilParts (w : World) : Calls Tryz.prog 47 #[.slice none 0 0, .slice none 0 0] w fun e w' => e = .returned (.bool true) ∧ Below w.heap.size w w' := by
  go_enter Tryz.func47, Tryz.ntmps47
  go_wp2_with fail
  go_loopw [5] (fun i wr => i = .int .i64 0 ∧ wr = w) (fun _ _ => 0)
  case atStart => exact ⟨rfl, rfl⟩
  case round =>
    obtain ⟨rfl, rfl⟩ := hrel
    go_wp2_with fail
    go_ret
    exact ⟨rfl, Below.refl _ _⟩
set_option maxRecDepth 20000 in
theorem nilExprs (w : World) : Calls Tryz.prog 48 #[.slice none 0 0, .slice none 0 0] w fun e w' => e = .returned (.bool true) ∧ Below w.heap.size w w' := by
  go_enter Tryz.func48, Tryz.ntmps48
  go_wp2_with fail
  go_loopw [5] (fun i wr => i = .int .i64 0 ∧ wr = w) (fun _ _ => 0)
  case atStart => exact ⟨rfl, rfl⟩
  case round =>
    obtain ⟨rfl, rfl⟩ := hrel
    go_wp2_with fail
    go_ret
    exact ⟨rfl, Below.refl _ _⟩
set_option maxRecDepth 20000 in
theorem nilCores (w : World) : Calls Tryz.prog 49 #[.slice none 0 0, .slice none 0 0] w fun e w' => e = .returned (.bool true) ∧ Below w.heap.size w w' := by
  go_enter Tryz.func49, Tryz.ntmps49
  go_wp2_with fail
  go_loopw [5] (fun i wr => i = .int .i64 0 ∧ wr = w) (fun _ _ => 0)
  case atStart => exact ⟨rfl, rfl⟩
  case round =>
    obtain ⟨rfl, rfl⟩ := hrel
    go_wp2_with fail
    go_ret
    exact ⟨rfl, Below.refl _ _⟩
set_option maxRecDepth 20000 in
set_option maxHeartbeats 1600000 in
theorem sameRC (w : World) : Calls Tryz.prog 31 #[.agg #[.int .i64 (-7), .string ⟨#[]⟩, .slice none 0 0, .slice none 0 0, .slice none 0 0, .slice none 0 0, .slice none 0 0], .agg #[.int .i64 (-7), .string ⟨#[]⟩, .slice none 0 0, .slice none 0 0, .slice none 0 0, .slice none 0 0, .slice none 0 0]] w fun e w' => e = .returned (.bool true) ∧ Below w.heap.size w w' := by
  obtain ⟨W0, hW0⟩ : ∃ W0, (w.alloc (.cells #[.int .i64 (-7), .string ⟨#[]⟩, .slice none 0 0, .slice none 0 0, .slice none 0 0, .slice none 0 0, .slice none 0 0] 40)).alloc (.cells #[.int .i64 (-7), .string ⟨#[]⟩, .slice none 0 0, .slice none 0 0, .slice none 0 0, .slice none 0 0, .slice none 0 0] 40) = W0 := ⟨_, rfl⟩
  have hb0 : Below w.heap.size w W0 := by rw [← hW0]; exact ((Below.refl _ w).alloc (Nat.le_refl _) _).alloc (by simp) _
  have hsz0 : W0.heap.size = w.heap.size + 2 := by rw [← hW0]; simp
  have hx0 : W0.heap[w.heap.size]? = some (.cells #[.int .i64 (-7), .string ⟨#[]⟩, .slice none 0 0, .slice none 0 0, .slice none 0 0, .slice none 0 0, .slice none 0 0] 40) := by
    rw [← hW0, Below.heap_alloc _ _ _ (by simp), heap_alloc_new]
  have hx1 : W0.heap[w.heap.size + 1]? = some (.cells #[.int .i64 (-7), .string ⟨#[]⟩, .slice none 0 0, .slice none 0 0, .slice none 0 0, .slice none 0 0, .slice none 0 0] 40) := by
    have := heap_alloc_new (w.alloc (.cells #[.int .i64 (-7), .string ⟨#[]⟩, .slice none 0 0, .slice none 0 0, .slice none 0 0, .slice none 0 0, .slice none 0 0] 40)) (.cells #[.int .i64 (-7), .string ⟨#[]⟩, .slice none 0 0, .slice none 0 0, .slice none 0 0, .slice none 0 0, .slice none 0 0] 40)
    rwa [hW0, World.size_alloc] at this
  obtain ⟨d0, d1, d2, d3, d4, d5, d6⟩ := seven_box hx0
  obtain ⟨e0, e1, e2, e3, e4, e5, e6⟩ := seven_box hx1
  have HX0 : Hid (W0.heap[w.heap.size]? = some (.cells #[.int .i64 (-7), .string ⟨#[]⟩, .slice none 0 0, .slice none 0 0, .slice none 0 0, .slice none 0 0, .slice none 0 0] 40)) := hx0
  have HX1 : Hid (W0.heap[w.heap.size + 1]? = some (.cells #[.int .i64 (-7), .string ⟨#[]⟩, .slice none 0 0, .slice none 0 0, .slice none 0 0, .slice none 0 0, .slice none 0 0] 40)) := hx1
  have HB0 : Hid (Below w.heap.size w W0) := hb0
  clear hx0 hx1 hb0
  go_enter Tryz.func31, Tryz.ntmps31
  go_wp2_with fail
  refine (nilFields _).mono ?_
  rintro e w2 ⟨rfl, b2⟩
  have HB1 : Hid (Below w.heap.size w w2) := nx HB0.out b2
  have HX0 : Hid (w2.heap[w.heap.size]? = some (.cells #[.int .i64 (-7), .string ⟨#[]⟩, .slice none 0 0, .slice none 0 0, .slice none 0 0, .slice none 0 0, .slice none 0 0] 40)) := (b2.block w.heap.size (by omega)).trans HX0.out
  have HX1 : Hid (w2.heap[w.heap.size + 1]? = some (.cells #[.int .i64 (-7), .string ⟨#[]⟩, .slice none 0 0, .slice none 0 0, .slice none 0 0, .slice none 0 0, .slice none 0 0] 40)) := (b2.block (w.heap.size + 1) (by omega)).trans HX1.out
  have hsz1 : w.heap.size + 2 ≤ w2.heap.size := by have := b2.size; omega
  obtain ⟨d0, d1, d2, d3, d4, d5, d6⟩ := seven_box HX0.out
  obtain ⟨e0, e1, e2, e3, e4, e5, e6⟩ := seven_box HX1.out
  clear b2
  go_wp2_with fail
  refine (nilParts _).mono ?_
  rintro e w3 ⟨rfl, b3⟩
  have HB2 : Hid (Below w.heap.size w w3) := nx HB1.out b3
  have HX0 : Hid (w3.heap[w.heap.size]? = some (.cells #[.int .i64 (-7), .string ⟨#[]⟩, .slice none 0 0, .slice none 0 0, .slice none 0 0, .slice none 0 0, .slice none 0 0] 40)) := (b3.block w.heap.size (by have := hsz1; omega)).trans HX0.out
  have HX1 : Hid (w3.heap[w.heap.size + 1]? = some (.cells #[.int .i64 (-7), .string ⟨#[]⟩, .slice none 0 0, .slice none 0 0, .slice none 0 0, .slice none 0 0, .slice none 0 0] 40)) := (b3.block (w.heap.size + 1) (by have := hsz1; omega)).trans HX1.out
  have hsz2 : w.heap.size + 2 ≤ w3.heap.size := by have := b3.size; omega
  obtain ⟨d0, d1, d2, d3, d4, d5, d6⟩ := seven_box HX0.out
  obtain ⟨e0, e1, e2, e3, e4, e5, e6⟩ := seven_box HX1.out
  clear b3
  go_wp2_with fail
  refine (nilExprs _).mono ?_
  rintro e w4 ⟨rfl, b4⟩
  have HB3 : Hid (Below w.heap.size w w4) := nx HB2.out b4
  have HX0 : Hid (w4.heap[w.heap.size]? = some (.cells #[.int .i64 (-7), .string ⟨#[]⟩, .slice none 0 0, .slice none 0 0, .slice none 0 0, .slice none 0 0, .slice none 0 0] 40)) := (b4.block w.heap.size (by have := hsz2; omega)).trans HX0.out
  have HX1 : Hid (w4.heap[w.heap.size + 1]? = some (.cells #[.int .i64 (-7), .string ⟨#[]⟩, .slice none 0 0, .slice none 0 0, .slice none 0 0, .slice none 0 0, .slice none 0 0] 40)) := (b4.block (w.heap.size + 1) (by have := hsz2; omega)).trans HX1.out
  have hsz3 : w.heap.size + 2 ≤ w4.heap.size := by have := b4.size; omega
  obtain ⟨d0, d1, d2, d3, d4, d5, d6⟩ := seven_box HX0.out
  obtain ⟨e0, e1, e2, e3, e4, e5, e6⟩ := seven_box HX1.out
  clear b4
  go_wp2_with fail
  refine (nilCores _).mono ?_
  rintro e w5 ⟨rfl, b5⟩
  have HB4 : Hid (Below w.heap.size w w5) := nx HB3.out b5
  have HX0 : Hid (w5.heap[w.heap.size]? = some (.cells #[.int .i64 (-7), .string ⟨#[]⟩, .slice none 0 0, .slice none 0 0, .slice none 0 0, .slice none 0 0, .slice none 0 0] 40)) := (b5.block w.heap.size (by have := hsz3; omega)).trans HX0.out
  have HX1 : Hid (w5.heap[w.heap.size + 1]? = some (.cells #[.int .i64 (-7), .string ⟨#[]⟩, .slice none 0 0, .slice none 0 0, .slice none 0 0, .slice none 0 0, .slice none 0 0] 40)) := (b5.block (w.heap.size + 1) (by have := hsz3; omega)).trans HX1.out
  have hsz4 : w.heap.size + 2 ≤ w5.heap.size := by have := b5.size; omega
  obtain ⟨d0, d1, d2, d3, d4, d5, d6⟩ := seven_box HX0.out
  obtain ⟨e0, e1, e2, e3, e4, e5, e6⟩ := seven_box HX1.out
  clear b5
  go_wp2_with fail
  refine (nilCores _).mono ?_
  rintro e w6 ⟨rfl, b6⟩
  have HB5 : Hid (Below w.heap.size w w6) := nx HB4.out b6
  go_wp2_with fail
  go_ret
  exact ⟨rfl, HB5.out⟩
set_option maxRecDepth 20000 in
set_option maxHeartbeats 1600000 in
theorem keptP {u v : Value} {c : Pt} {w : World} (hu : InP true All w u c) (hv : InP false All w v c) :
    Calls Tryz.prog 75 #[u, v] w fun e w' => e = .returned (.bool true) ∧ Below w.heap.size w w' := by
  obtain ⟨p, b, x⟩ := c
  obtain ⟨m, e0, e1, e2, e3, rfl, hp, hx⟩ := hu
  obtain ⟨m', f0, f1, f2, f3, rfl, -, hy⟩ := hv
  dsimp only at hp hx hy ⊢
  obtain ⟨W0, hW0⟩ : ∃ W0, (w.alloc (.cells #[.string p, .bool b, e0, e1, e2, e3] 60)).alloc (.cells #[.string p, .bool b, f0, f1, f2, f3] 60) = W0 := ⟨_, rfl⟩
  have hb0 : Below w.heap.size w W0 := by rw [← hW0]; exact ((Below.refl _ w).alloc (Nat.le_refl _) _).alloc (by simp) _
  have hsz0 : W0.heap.size = w.heap.size + 2 := by rw [← hW0]; simp
  have hx0 : W0.heap[w.heap.size]? = some (.cells #[.string p, .bool b, e0, e1, e2, e3] 60) := by
    rw [← hW0, Below.heap_alloc _ _ _ (by simp), heap_alloc_new]
  have hx1 : W0.heap[w.heap.size + 1]? = some (.cells #[.string p, .bool b, f0, f1, f2, f3] 60) := by
    have := heap_alloc_new (w.alloc (.cells #[.string p, .bool b, e0, e1, e2, e3] 60)) (.cells #[.string p, .bool b, f0, f1, f2, f3] 60)
    rwa [hW0, World.size_alloc] at this
  obtain ⟨k0, k1, k2, k3, k4, k5⟩ := Base.six_box hx0
  obtain ⟨j0, j1, j2, j3, j4, j5⟩ := Base.six_box hx1
  have cE := XKept.kept_c (S := All) ((hx.below hb0).weak (fun _ h => h) true id (m + m') (by omega)) ((hy.below hb0).weak (fun _ h => h) false id (m + m') (by omega))
  clear hx0 hx1 hx hy
  go_enter Tryz.func75, Tryz.ntmps75
  go_wp2_with fail
  refine cE.mono ?_
  rintro e w2 ⟨rfl, b2⟩
  go_wp2_with fail
  go_ret
  exact ⟨rfl, nx hb0 b2⟩
set_option maxRecDepth 20000 in
set_option maxHeartbeats 1600000 in
theorem keptF {u v : Value} {c : Fld} {w : World} (hu : InF true All w u c) (hv : InF false All w v c) :
    Calls Tryz.prog 74 #[u, v] w fun e w' => e = .returned (.bool true) ∧ Below w.heap.size w w' := by
  obtain ⟨n, p, b, x, i⟩ := c
  obtain ⟨m, e0, e1, e2, e3, rfl, hn, hp, hx, -⟩ := hu
  obtain ⟨m', f0, f1, f2, f3, rfl, -, -, hy, -⟩ := hv
  dsimp only at hn hp hx hy ⊢
  obtain ⟨W0, hW0⟩ : ∃ W0, (w.alloc (.cells #[.string n, .string p, .bool b, e0, e1, e2, e3, .int .i64 i] 79)).alloc (.cells #[.string n, .string p, .bool b, f0, f1, f2, f3, .int .i64 i] 79) = W0 := ⟨_, rfl⟩
  have hb0 : Below w.heap.size w W0 := by rw [← hW0]; exact ((Below.refl _ w).alloc (Nat.le_refl _) _).alloc (by simp) _
  have hsz0 : W0.heap.size = w.heap.size + 2 := by rw [← hW0]; simp
  have hx0 : W0.heap[w.heap.size]? = some (.cells #[.string n, .string p, .bool b, e0, e1, e2, e3, .int .i64 i] 79) := by
    rw [← hW0, Below.heap_alloc _ _ _ (by simp), heap_alloc_new]
  have hx1 : W0.heap[w.heap.size + 1]? = some (.cells #[.string n, .string p, .bool b, f0, f1, f2, f3, .int .i64 i] 79) := by
    have := heap_alloc_new (w.alloc (.cells #[.string n, .string p, .bool b, e0, e1, e2, e3, .int .i64 i] 79)) (.cells #[.string n, .string p, .bool b, f0, f1, f2, f3, .int .i64 i] 79)
    rwa [hW0, World.size_alloc] at this
  obtain ⟨k0, k1, k2, k3, k4, k5, k6, k7⟩ := eight_box hx0
  obtain ⟨j0, j1, j2, j3, j4, j5, j6, j7⟩ := eight_box hx1
  have cE := XKept.kept_c (S := All) ((hx.below hb0).weak (fun _ h => h) true id (m + m') (by omega)) ((hy.below hb0).weak (fun _ h => h) false id (m + m') (by omega))
  have HX0 : Hid (W0.heap[w.heap.size]? = some (.cells #[.string n, .string p, .bool b, e0, e1, e2, e3, .int .i64 i] 79)) := hx0
  have HX1 : Hid (W0.heap[w.heap.size + 1]? = some (.cells #[.string n, .string p, .bool b, f0, f1, f2, f3, .int .i64 i] 79)) := hx1
  clear hx0 hx1 hx hy
  go_enter Tryz.func74, Tryz.ntmps74
  go_wp2_with fail
  refine cE.mono ?_
  rintro e w2 ⟨rfl, b2⟩
  obtain ⟨k0, k1, k2, k3, k4, k5, k6, k7⟩ := eight_box ((b2.block w.heap.size (by omega)).trans HX0.out)
  obtain ⟨j0, j1, j2, j3, j4, j5, j6, j7⟩ := eight_box ((b2.block (w.heap.size + 1) (by omega)).trans HX1.out)
  go_wp2_with fail
  go_ret
  exact ⟨rfl, nx hb0 b2⟩
set_option maxRecDepth 20000 in
set_option maxHeartbeats 1600000 in
theorem keptsP (u v : Value) (l : List Pt) (w : World) (hu : RP true All w u l) (hv : RP false All w v l) :
    Calls Tryz.prog 51 #[u, v] w fun e w' => e = .returned (.bool true) ∧ Below w.heap.size w w' := by
  obtain ⟨a, cap, rfl, hlc, hcm, hlen, hnil, hN⟩ := hu
  obtain ⟨a', cap', rfl, hlc', hm', -, hnil', hN'⟩ := hv
  have hN0 := hN
  obtain ⟨g, o, rfl, hr⟩ : ∃ g o, a = some ⟨g, o, none⟩ ∧ (l.length + 2 ≤ cap ∧ Pt6 w g (o + l.length * 6) rmP ∧ Pt6 w g (o + l.length * 6 + 6) rmP) := by
    rcases hN with ⟨_, h⟩ | ⟨g, o, h, _, _, hr⟩
    · cases h
    · exact ⟨g, o, h, hr rfl⟩
  obtain ⟨h2, s1, s2⟩ := hr
  clear hN
  obtain ⟨d0, d1, d2, d3, d4, d5⟩ := roomP s1
  have z2 := s2
  rw [show o + l.length * 6 + 6 = o + (l.length + 1) * 6 by omega] at z2
  go_enter Tryz.func51, Tryz.ntmps51
  go_wp2_with fail
  refine (sameRP _).mono ?_
  rintro e w1 ⟨rfl, b1⟩
  obtain ⟨e0, e1, e2, e3, e4, e5⟩ := roomP (belowP z2 b1)
  go_wp2_with fail
  refine (sameRP _).mono ?_
  rintro e w2 ⟨rfl, b2⟩
  have b12 := nx b1 b2
  clear b1 b2 d0 d1 d2 d3 d4 d5 e0 e1 e2 e3 e4 e5 s1 s2 z2
  go_wp2_with fail
  go_loopw [6] (fun i wr => ∃ q : Nat, q ≤ l.length ∧ i = .int .i64 q ∧ Below w.heap.size w wr) (fun i _ => l.length - (intOf i).toNat)
  case atStart => exact ⟨0, by omega, rfl, b12⟩
  case round =>
    obtain ⟨q, hq, rfl, hb⟩ := hrel
    by_cases hlt : q < l.length
    · obtain ⟨g1, o1, x, E, -, hx, hin⟩ := hN0.elem hlt
      obtain ⟨g', o', y, rfl, -, hy, hin'⟩ := hN'.elem hlt
      obtain ⟨rfl, rfl⟩ : g = g1 ∧ o = o1 := by cases E; exact ⟨rfl, rfl⟩
      have hd := (Below.refl wr.heap.size wr).drew
      have c18 := keptP (InP.keep (Base.Keep.of_below (nx hb hd)) hin) (InP.keep (Base.Keep.of_below (nx hb hd)) hin')
      have hx := belowP hx hb
      have hy := belowP hy hb
      obtain ⟨x0, x1, x2, x3, x4, x5, rfl, d0, d1, d2, d3, d4, d5⟩ := hx
      obtain ⟨y0, y1, y2, y3, y4, y5, rfl, e0, e1, e2, e3, e4, e5⟩ := hy
      clear hN0 hN' hin hin' E
      go_wp2_with fail
      go_region_with (go_at_call 75; refine c18.mono ?_; rintro e w1 ⟨rfl, b1⟩)
      all_goals go_wp2_with fail
      all_goals go_roundw
      all_goals first
        | (case rel => exact ⟨q + 1, by omega, by go_num, hb.drew.trans (b1.mono hb.size)⟩)
        | (case measure => simp only [intOf]; omega)
    · have hlt' : decide ((q : Int) < (l.length : Int)) = false := by simp; omega
      go_wp2_with fail
      go_ret
      exact ⟨rfl, hb⟩
set_option maxRecDepth 20000 in
set_option maxHeartbeats 1600000 in
theorem keptsF (u v : Value) (l : List Fld) (w : World) (hu : RF true All w u l) (hv : RF false All w v l) :
    Calls Tryz.prog 50 #[u, v] w fun e w' => e = .returned (.bool true) ∧ Below w.heap.size w w' := by
  obtain ⟨a, cap, rfl, hlc, hcm, hlen, hnil, hN⟩ := hu
  obtain ⟨a', cap', rfl, hlc', hm', -, hnil', hN'⟩ := hv
  have hN0 := hN
  obtain ⟨g, o, rfl, hr⟩ : ∃ g o, a = some ⟨g, o, none⟩ ∧ (l.length + 2 ≤ cap ∧ Fd8 w g (o + l.length * 8) rmF ∧ Fd8 w g (o + l.length * 8 + 8) rmF) := by
    rcases hN with ⟨_, h⟩ | ⟨g, o, h, _, _, hr⟩
    · cases h
    · exact ⟨g, o, h, hr rfl⟩
  obtain ⟨h2, s1, s2⟩ := hr
  clear hN
  obtain ⟨d0, d1, d2, d3, d4, d5, d6, d7⟩ := roomF s1
  have z2 := s2
  rw [show o + l.length * 8 + 8 = o + (l.length + 1) * 8 by omega] at z2
  go_enter Tryz.func50, Tryz.ntmps50
  go_wp2_with fail
  refine (sameRF _).mono ?_
  rintro e w1 ⟨rfl, b1⟩
  obtain ⟨e0, e1, e2, e3, e4, e5, e6, e7⟩ := roomF (belowF z2 b1)
  go_wp2_with fail
  refine (sameRF _).mono ?_
  rintro e w2 ⟨rfl, b2⟩
  have b12 := nx b1 b2
  clear b1 b2 d0 d1 d2 d3 d4 d5 d6 d7 e0 e1 e2 e3 e4 e5 e6 e7 s1 s2 z2
  go_wp2_with fail
  go_loopw [6] (fun i wr => ∃ q : Nat, q ≤ l.length ∧ i = .int .i64 q ∧ Below w.heap.size w wr) (fun i _ => l.length - (intOf i).toNat)
  case atStart => exact ⟨0, by omega, rfl, b12⟩
  case round =>
    obtain ⟨q, hq, rfl, hb⟩ := hrel
    by_cases hlt : q < l.length
    · obtain ⟨g1, o1, x, E, -, hx, hin⟩ := hN0.elem hlt
      obtain ⟨g', o', y, rfl, -, hy, hin'⟩ := hN'.elem hlt
      obtain ⟨rfl, rfl⟩ : g = g1 ∧ o = o1 := by cases E; exact ⟨rfl, rfl⟩
      have hd := (Below.refl wr.heap.size wr).drew
      have c18 := keptF (InF.keep (Base.Keep.of_below (nx hb hd)) hin) (InF.keep (Base.Keep.of_below (nx hb hd)) hin')
      have hx := belowF hx hb
      have hy := belowF hy hb
      obtain ⟨x0, x1, x2, x3, x4, x5, x6, x7, rfl, d0, d1, d2, d3, d4, d5, d6, d7⟩ := hx
      obtain ⟨y0, y1, y2, y3, y4, y5, y6, y7, rfl, e0, e1, e2, e3, e4, e5, e6, e7⟩ := hy
      clear hN0 hN' hin hin' E
      go_wp2_with fail
      go_region_with (go_at_call 74; refine c18.mono ?_; rintro e w1 ⟨rfl, b1⟩)
      all_goals go_wp2_with fail
      all_goals go_roundw
      all_goals first
        | (case rel => exact ⟨q + 1, by omega, by go_num, hb.drew.trans (b1.mono hb.size)⟩)
        | (case measure => simp only [intOf]; omega)
    · have hlt' : decide ((q : Int) < (l.length : Int)) = false := by simp; omega
      go_wp2_with fail
      go_ret
      exact ⟨rfl, hb⟩
def Keeps (m : Nat) : Prop := ∀ (u v : Value) (c : Co) (w : World), In true All w m u c → In false All w m v c →
    Calls Tryz.prog 32 #[u, v] w fun e w' => e = .returned (.bool true) ∧ Below w.heap.size w w'
set_option maxRecDepth 20000 in
set_option maxHeartbeats 1600000 in
theorem kepts_of (m : Nat) (hm : Keeps m) (u v : Value) (l : List Co) (w : World) (hu : InL true All w m u l) (hv : InL false All w m v l) :
    Calls Tryz.prog 17 #[u, v] w fun e w' => e = .returned (.bool true) ∧ Below w.heap.size w w' := by
  obtain ⟨a, cap, rfl, hlc, hcm, hlen, hnil, hN⟩ := hu
  obtain ⟨a', cap', rfl, hlc', hm', -, hnil', hN'⟩ := hv
  have hN0 := hN
  obtain ⟨g, o, rfl, hr⟩ : ∃ g o, a = some ⟨g, o, none⟩ ∧ (l.length + 2 ≤ cap ∧ Co7 w g (o + l.length * 7) rmC ∧ Co7 w g (o + l.length * 7 + 7) rmC) := by
    rcases hN with ⟨_, h⟩ | ⟨g, o, h, _, _, hr⟩
    · cases h
    · exact ⟨g, o, h, hr rfl⟩
  obtain ⟨h2, s1, s2⟩ := hr
  clear hN
  obtain ⟨d0, d1, d2, d3, d4, d5, d6⟩ := roomC s1
  have z2 := s2
  rw [show o + l.length * 7 + 7 = o + (l.length + 1) * 7 by omega] at z2
  go_enter Tryz.func17, Tryz.ntmps17
  go_wp2_with fail
  refine (sameRC _).mono ?_
  rintro e w1 ⟨rfl, b1⟩
  obtain ⟨e0, e1, e2, e3, e4, e5, e6⟩ := roomC (belowC z2 b1)
  go_wp2_with fail
  refine (sameRC _).mono ?_
  rintro e w2 ⟨rfl, b2⟩
  have b12 := nx b1 b2
  clear b1 b2 d0 d1 d2 d3 d4 d5 d6 e0 e1 e2 e3 e4 e5 e6 s1 s2 z2
  go_wp2_with fail
  go_loopw [6] (fun i wr => ∃ q : Nat, q ≤ l.length ∧ i = .int .i64 q ∧ Below w.heap.size w wr) (fun i _ => l.length - (intOf i).toNat)
  case atStart => exact ⟨0, by omega, rfl, b12⟩
  case round =>
    obtain ⟨q, hq, rfl, hb⟩ := hrel
    by_cases hlt : q < l.length
    · obtain ⟨g1, o1, x, E, -, hx, hin⟩ := hN0.elem hlt
      obtain ⟨g', o', y, rfl, -, hy, hin'⟩ := hN'.elem hlt
      obtain ⟨rfl, rfl⟩ : g = g1 ∧ o = o1 := by cases E; exact ⟨rfl, rfl⟩
      have hd := (Below.refl wr.heap.size wr).drew
      have c18 := hm x y l[q] wr.drew ((hin.below hb).below hd) ((hin'.below hb).below hd)
      have hx := belowC hx hb
      have hy := belowC hy hb
      obtain ⟨x0, x1, x2, x3, x4, x5, x6, rfl, d0, d1, d2, d3, d4, d5, d6⟩ := hx
      obtain ⟨y0, y1, y2, y3, y4, y5, y6, rfl, e0, e1, e2, e3, e4, e5, e6⟩ := hy
      clear hN0 hN' hin hin' E hm
      go_wp2_with fail
      go_region_with (go_at_call 32; refine c18.mono ?_; rintro e w1 ⟨rfl, b1⟩)
      all_goals go_wp2_with fail
      all_goals go_roundw
      all_goals first
        | (case rel => exact ⟨q + 1, by omega, by go_num, hb.drew.trans (b1.mono hb.size)⟩)
        | (case measure => simp only [intOf]; omega)
    · have hlt' : decide ((q : Int) < (l.length : Int)) = false := by simp; omega
      go_wp2_with fail
      go_ret
      exact ⟨rfl, hb⟩
set_option maxRecDepth 20000 in
set_option maxHeartbeats 1600000 in
theorem kept_of (m : Nat) (hm : ∀ (u v : Value) (l : List Co) (w : World), InL true All w m u l → InL false All w m v l → Calls Tryz.prog 17 #[u, v] w fun e w' => e = .returned (.bool true) ∧ Below w.heap.size w w') : Keeps (m + 1) := by
  intro u v c w hu hv
  rw [in_succ] at hu hv
  obtain ⟨fv, pv, xv, lv, uv, rfl, hk, ht, hF, hP, ⟨mx, hX⟩, hL, hU⟩ := hu
  obtain ⟨fv', pv', xv', lv', uv', rfl, -, -, hF', hP', ⟨mx', hX'⟩, hL', hU'⟩ := hv
  obtain ⟨W0, hW0⟩ : ∃ W0, (w.alloc (.cells #[.int .i64 c.k, .string c.t, fv, pv, xv, lv, uv] 40)).alloc (.cells #[.int .i64 c.k, .string c.t, fv', pv', xv', lv', uv'] 40) = W0 := ⟨_, rfl⟩
  have hb0 : Below w.heap.size w W0 := by rw [← hW0]; exact ((Below.refl _ w).alloc (Nat.le_refl _) _).alloc (by simp) _
  have hsz0 : W0.heap.size = w.heap.size + 2 := by rw [← hW0]; simp
  have hx0 : W0.heap[w.heap.size]? = some (.cells #[.int .i64 c.k, .string c.t, fv, pv, xv, lv, uv] 40) := by
    rw [← hW0, Below.heap_alloc _ _ _ (by simp), heap_alloc_new]
  have hx1 : W0.heap[w.heap.size + 1]? = some (.cells #[.int .i64 c.k, .string c.t, fv', pv', xv', lv', uv'] 40) := by
    have := heap_alloc_new (w.alloc (.cells #[.int .i64 c.k, .string c.t, fv, pv, xv, lv, uv] 40)) (.cells #[.int .i64 c.k, .string c.t, fv', pv', xv', lv', uv'] 40)
    rwa [hW0, World.size_alloc] at this
  obtain ⟨d0, d1, d2, d3, d4, d5, d6⟩ := seven_box hx0
  obtain ⟨e0, e1, e2, e3, e4, e5, e6⟩ := seven_box hx1
  have HX0 : Hid (W0.heap[w.heap.size]? = some (.cells #[.int .i64 c.k, .string c.t, fv, pv, xv, lv, uv] 40)) := hx0
  have HX1 : Hid (W0.heap[w.heap.size + 1]? = some (.cells #[.int .i64 c.k, .string c.t, fv', pv', xv', lv', uv'] 40)) := hx1
  have HB0 : Hid (Below w.heap.size w W0) := hb0
  have c0 : Hid (∀ W, Below w.heap.size w W → Calls Tryz.prog 50 #[fv, fv'] W fun e w' => e = .returned (.bool true) ∧ Below W.heap.size W w') := fun W h => keptsF _ _ _ W (RF.keep (Base.Keep.of_below h) hF) (RF.keep (Base.Keep.of_below h) hF')
  have c1 : Hid (∀ W, Below w.heap.size w W → Calls Tryz.prog 51 #[pv, pv'] W fun e w' => e = .returned (.bool true) ∧ Below W.heap.size W w') := fun W h => keptsP _ _ _ W (RP.keep (Base.Keep.of_below h) hP) (RP.keep (Base.Keep.of_below h) hP')
  have c2 : Hid (∀ W, Below w.heap.size w W → Calls Tryz.prog 52 #[xv, xv'] W fun e w' => e = .returned (.bool true) ∧ Below W.heap.size W w') := fun W h => XKept.kepts_of (mx + mx') (XKept.keepsAll _) _ _ c.x W ((hX.below h).weak (fun _ h => h) true id _ (by omega)) ((hX'.below h).weak (fun _ h => h) false id _ (by omega))
  have c3 : Hid (∀ W, Below w.heap.size w W → Calls Tryz.prog 17 #[lv, lv'] W fun e w' => e = .returned (.bool true) ∧ Below W.heap.size W w') := fun W h => hm _ _ c.l W (hL.below h) (hL'.below h)
  have c4 : Hid (∀ W, Below w.heap.size w W → Calls Tryz.prog 17 #[uv, uv'] W fun e w' => e = .returned (.bool true) ∧ Below W.heap.size W w') := fun W h => hm _ _ c.u W (hU.below h) (hU'.below h)
  clear hx0 hx1 hb0 hF hP hX hL hU hF' hP' hX' hL' hU' hm
  go_enter Tryz.func32, Tryz.ntmps32
  go_wp2_with fail
  refine (c0.out _ HB0.out).mono ?_
  rintro e w2 ⟨rfl, b2⟩
  have HB1 : Hid (Below w.heap.size w w2) := nx HB0.out b2
  have HX0 : Hid (w2.heap[w.heap.size]? = some (.cells #[.int .i64 c.k, .string c.t, fv, pv, xv, lv, uv] 40)) := (b2.block w.heap.size (by omega)).trans HX0.out
  have HX1 : Hid (w2.heap[w.heap.size + 1]? = some (.cells #[.int .i64 c.k, .string c.t, fv', pv', xv', lv', uv'] 40)) := (b2.block (w.heap.size + 1) (by omega)).trans HX1.out
  have hsz1 : w.heap.size + 2 ≤ w2.heap.size := by have := b2.size; omega
  obtain ⟨d0, d1, d2, d3, d4, d5, d6⟩ := seven_box HX0.out
  obtain ⟨e0, e1, e2, e3, e4, e5, e6⟩ := seven_box HX1.out
  clear b2
  go_wp2_with fail
  refine (c1.out _ HB1.out).mono ?_
  rintro e w3 ⟨rfl, b3⟩
  have HB2 : Hid (Below w.heap.size w w3) := nx HB1.out b3
  have HX0 : Hid (w3.heap[w.heap.size]? = some (.cells #[.int .i64 c.k, .string c.t, fv, pv, xv, lv, uv] 40)) := (b3.block w.heap.size (by omega)).trans HX0.out
  have HX1 : Hid (w3.heap[w.heap.size + 1]? = some (.cells #[.int .i64 c.k, .string c.t, fv', pv', xv', lv', uv'] 40)) := (b3.block (w.heap.size + 1) (by omega)).trans HX1.out
  have hsz2 : w.heap.size + 2 ≤ w3.heap.size := by have := b3.size; omega
  obtain ⟨d0, d1, d2, d3, d4, d5, d6⟩ := seven_box HX0.out
  obtain ⟨e0, e1, e2, e3, e4, e5, e6⟩ := seven_box HX1.out
  clear b3
  go_wp2_with fail
  refine (c2.out _ HB2.out).mono ?_
  rintro e w4 ⟨rfl, b4⟩
  have HB3 : Hid (Below w.heap.size w w4) := nx HB2.out b4
  have HX0 : Hid (w4.heap[w.heap.size]? = some (.cells #[.int .i64 c.k, .string c.t, fv, pv, xv, lv, uv] 40)) := (b4.block w.heap.size (by omega)).trans HX0.out
  have HX1 : Hid (w4.heap[w.heap.size + 1]? = some (.cells #[.int .i64 c.k, .string c.t, fv', pv', xv', lv', uv'] 40)) := (b4.block (w.heap.size + 1) (by omega)).trans HX1.out
  have hsz3 : w.heap.size + 2 ≤ w4.heap.size := by have := b4.size; omega
  obtain ⟨d0, d1, d2, d3, d4, d5, d6⟩ := seven_box HX0.out
  obtain ⟨e0, e1, e2, e3, e4, e5, e6⟩ := seven_box HX1.out
  clear b4
  go_wp2_with fail
  refine (c3.out _ HB3.out).mono ?_
  rintro e w5 ⟨rfl, b5⟩
  have HB4 : Hid (Below w.heap.size w w5) := nx HB3.out b5
  have HX0 : Hid (w5.heap[w.heap.size]? = some (.cells #[.int .i64 c.k, .string c.t, fv, pv, xv, lv, uv] 40)) := (b5.block w.heap.size (by omega)).trans HX0.out
  have HX1 : Hid (w5.heap[w.heap.size + 1]? = some (.cells #[.int .i64 c.k, .string c.t, fv', pv', xv', lv', uv'] 40)) := (b5.block (w.heap.size + 1) (by omega)).trans HX1.out
  have hsz4 : w.heap.size + 2 ≤ w5.heap.size := by have := b5.size; omega
  obtain ⟨d0, d1, d2, d3, d4, d5, d6⟩ := seven_box HX0.out
  obtain ⟨e0, e1, e2, e3, e4, e5, e6⟩ := seven_box HX1.out
  clear b5
  go_wp2_with fail
  refine (c4.out _ HB4.out).mono ?_
  rintro e w6 ⟨rfl, b6⟩
  have HB5 : Hid (Below w.heap.size w w6) := nx HB4.out b6
  go_wp2_with fail
  go_ret
  exact ⟨rfl, HB5.out⟩
theorem keepsAll : ∀ m, Keeps m := by
  intro m
  induction m with
  | zero => intro u v c w h; exact (in_zero h).elim
  | succ m ih => exact kept_of m (kepts_of m ih)
/-- KeptCores: what was lent is as it was, its rooms too. -/
theorem kepts_c {m m' : Nat} {u v : Value} {l : List Co} {w : World} {S : Nat → Prop} (hu : InL true S w m u l) (hv : InL false All w m' v l) :
    Calls Tryz.prog 17 #[u, v] w fun e w' => e = .returned (.bool true) ∧ Below w.heap.size w w' :=
  kepts_of (m + m') (keepsAll _) u v l w (InL.weak (fun _ _ => trivial) true id _ (by omega) hu) (InL.weak (fun _ h => h) false id _ (by omega) hv)
end Go.Proofs.YtofjedecjlodmaaGreat.KKp

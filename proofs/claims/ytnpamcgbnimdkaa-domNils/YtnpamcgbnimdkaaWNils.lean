/- The law DomNils walked. -/
import Derived.Test.YtnpamcgbnimdkaaDAwk
import Derived.Laws.StructEq
namespace Go.Proofs.Ytnpamcgbnimdkaa.WNils
open Go.RowKit Go.Proofs.Ytnpamcgbnimdkaa.TBase Go.Proofs.Ytnpamcgbnimdkaa.DNil Go.Proofs.Ytnpamcgbnimdkaa.DMake Go.Proofs.Ytnpamcgbnimdkaa.DPlace Go.Proofs.Ytnpamcgbnimdkaa.DAw Go.Proofs.Ytnpamcgbnimdkaa.DAwk
set_option linter.unusedVariables false

set_option maxRecDepth 20000 in
set_option maxHeartbeats 3200000 in
theorem walk {w : World} {sec : Bool} {kd a b c : Int} {nm tx g s : ByteArray} {a1 a2 : Option Addr} {n1 c1 n2 c2 : Nat} :
    Calls Try.prog 6 #[.agg #[.bool sec, .int .i64 kd, .int .i64 a, .int .i64 b, .int .i64 c, .string nm, .string tx, .string g, .string s, .slice a1 n1 c1, .slice a2 n2 c2]] w fun e w' => e = .returned (.bool true) ∧ Below w.heap.size w w' := by
  obtain ⟨W0, hW0⟩ : ∃ W0, w.alloc (.cells #[.bool sec, .int .i64 kd, .int .i64 a, .int .i64 b, .int .i64 c, .string nm, .string tx, .string g, .string s, .slice a1 n1 c1, .slice a2 n2 c2] 30) = W0 := ⟨_, rfl⟩
  have y0 : W0.heap[w.heap.size]? = some (.cells #[.bool sec, .int .i64 kd, .int .i64 a, .int .i64 b, .int .i64 c, .string nm, .string tx, .string g, .string s, .slice a1 n1 c1, .slice a2 n2 c2] 30 (0, 0)) := by rw [← hW0]; exact heap_alloc_new w _
  have b0 : Below w.heap.size w W0 := by rw [← hW0]; exact (Below.refl _ w).alloc (Nat.le_refl _) _
  have z0 : w.heap.size < W0.heap.size := by rw [← hW0]; simp
  have HB : Hid (∀ w', Below W0.heap.size W0 w' → w'.cell? ⟨w.heap.size, 2, none⟩ = some (.int .i64 a) ∧ w'.cell? ⟨w.heap.size, 3, none⟩ = some (.int .i64 b) ∧ w'.cell? ⟨w.heap.size, 4, none⟩ = some (.int .i64 c) ∧ w'.cell? ⟨w.heap.size, 5, none⟩ = some (.string nm) ∧ w'.cell? ⟨w.heap.size, 6, none⟩ = some (.string tx)) := by
    intro w' hb
    have y := (hb.block _ z0).trans y0
    refine ⟨?_, ?_, ?_, ?_, ?_⟩ <;> simp [World.cell?, y]
  have bb : Below W0.heap.size W0 W0 := Below.refl _ _
  have HW0 : Hid (w.alloc (.cells #[.bool sec, .int .i64 kd, .int .i64 a, .int .i64 b, .int .i64 c, .string nm, .string tx, .string g, .string s, .slice a1 n1 c1, .slice a2 n2 c2] 30) = W0) := hW0
  clear hW0 y0
  go_enter Try.func6, Try.ntmps6
  go_wp2_with (first
    | (rw [HW0.out]; go_at_call 15; refine (Build_nil _ _ _ _ _ _ _ _ _).mono ?_; rintro e w2 ⟨rfl, b2⟩; replace bb := nx bb b2; obtain ⟨k2, k3, k4, k5, k6⟩ := HB.out _ bb; clear b2)
    | (go_at_call 29; refine (Kids_nil _ _).mono ?_; rintro e w2 ⟨rfl, b2⟩; replace bb := nx bb b2; obtain ⟨k2, k3, k4, k5, k6⟩ := HB.out _ bb; clear b2)
    | (go_at_call 17; refine (Place_nil _ _ _ _).mono ?_; rintro e w2 ⟨rfl, b2⟩; replace bb := nx bb b2; obtain ⟨k2, k3, k4, k5, k6⟩ := HB.out _ bb; clear b2)
    | (go_at_call 18; refine (Move_nil _ _ _).mono ?_; rintro e w2 ⟨rfl, b2⟩; replace bb := nx bb b2; obtain ⟨k2, k3, k4, k5, k6⟩ := HB.out _ bb; clear b2)
    | (go_at_call 19; refine (Remove_nil _ _).mono ?_; rintro e w2 ⟨rfl, b2⟩; replace bb := nx bb b2; obtain ⟨k2, k3, k4, k5, k6⟩ := HB.out _ bb; clear b2)
    | (go_at_call 20; refine (SetAttr_nil _ _ _ _).mono ?_; rintro e w2 ⟨rfl, b2⟩; replace bb := nx bb b2; obtain ⟨k2, k3, k4, k5, k6⟩ := HB.out _ bb; clear b2)
    | (go_at_call 21; refine (DropAttr_nil _ _ _).mono ?_; rintro e w2 ⟨rfl, b2⟩; replace bb := nx bb b2; obtain ⟨k2, k3, k4, k5, k6⟩ := HB.out _ bb; clear b2)
    | (go_at_call 22; refine (SetText_nil _ _ _).mono ?_; rintro e w2 ⟨rfl, b2⟩; replace bb := nx bb b2; obtain ⟨k2, k3, k4, k5, k6⟩ := HB.out _ bb; clear b2)
    | (go_at_call 25; refine (num_c _ _).mono ?_; rintro e w9 ⟨rfl, rfl⟩)
    | (go_at_call 12; refine (Cells_nil _).mono ?_; rintro e w2 ⟨rfl, b2⟩; replace bb := nx bb b2; obtain ⟨k2, k3, k4, k5, k6⟩ := HB.out _ bb; clear b2)
    | (go_at_call 13; refine (Free_nil _).mono ?_; rintro e w2 ⟨rfl, b2⟩; replace bb := nx bb b2; obtain ⟨k2, k3, k4, k5, k6⟩ := HB.out _ bb; clear b2)
    | (go_at_call 14; refine (Counts_nil _).mono ?_; rintro e w2 ⟨rfl, b2⟩; replace bb := nx bb b2; obtain ⟨k2, k3, k4, k5, k6⟩ := HB.out _ bb; clear b2)
    | (go_at_call 28; refine (Forest_nil _).mono ?_; rintro e w2 ⟨rfl, b2⟩; replace bb := nx bb b2; obtain ⟨k2, k3, k4, k5, k6⟩ := HB.out _ bb; clear b2)
    | (go_at_call 8; refine (awake_c _).mono ?_; rintro e w2 ⟨rfl, b2⟩; replace bb := nx bb b2; obtain ⟨k2, k3, k4, k5, k6⟩ := HB.out _ bb; clear b2))
  go_ret
  exact ⟨rfl, b0.trans (bb.mono (Nat.le_of_lt z0))⟩
end Go.Proofs.Ytnpamcgbnimdkaa.WNils

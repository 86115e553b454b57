/- The contract of awake. -/
import Derived.Test.YtnhnmbmbldhpnaaMem
namespace Go.Proofs.Ytnhnmbmbldhpnaa.Base
set_option linter.unusedVariables false
open Go.ChangeShapes Go.WideShapes Go.ChangeAt Go.RowKit

theorem Own.shape {w : World} {B : Nat} {v : Value} {L : List UInt8} (h : Own w B v L) (hne : L ≠ []) : ∃ g cap, v = .slice (some ⟨g, 0, none⟩) L.length cap ∧ B ≤ g ∧ g < w.heap.size := by
  have hlt := World.ownsRow.lt h
  rcases h.2 with ⟨_, h0⟩ | ⟨g, cap, cur, rfl, hb, _⟩
  · exact absurd (List.eq_nil_of_length_eq_zero h0) hne
  · exact ⟨g, cap, rfl, hb, (hlt g rfl).2⟩
theorem seen_built (w : World) (L : List UInt8) (hl : L.length ≤ 100) : Seen (w.alloc (.cells (cellsL L).toArray 5)) (.slice (some ⟨w.heap.size, 0, none⟩) L.length L.length) L := by
  refine ⟨_, _, rfl, Nat.le_refl _, by unfold maxLen; omega, (fun h => by cases h), fun g o s h j hj => ?_⟩
  cases h
  refine ⟨rfl, ?_⟩
  rw [Nat.zero_add, cell_of_row _ w.heap.size j (cellsL L).toArray 5 (0, 0) (heap_alloc_new w _)]
  simp [cellsL, hj]
theorem aw1 (w : World) : Calls Try.prog 13 #[.slice (some ⟨w.heap.size, 0, none⟩) 3 3, .int .i64 1] (w.alloc (.cells #[.int .u8 9, .int .u8 128, .int .u8 1] 5)) fun e w' =>
    e = .returned (.tuple #[.int .u64 128, .int .i64 3, .int .i64 0]) ∧ w' = w.alloc (.cells #[.int .u8 9, .int .u8 128, .int .u8 1] 5) := by
  have h := take_c _ [9, 128, 1] 1 _ (seen_built w [9, 128, 1] (by decide))
  have e : tk [9, 128, 1] 1 = (128, 3, 0) := by decide
  rw [e] at h
  exact h
theorem aw2 (w : World) (b : Nat) (hb : w.heap.size = b) : Calls Try.prog 14 #[.slice (some ⟨b, 0, none⟩) 1 1, .int .i64 0] (w.alloc (.cells #[.int .u8 3] 5)) fun e w' =>
    e = .returned (.tuple #[.int .i64 (-2), .int .i64 1, .int .i64 0]) ∧ w' = w.alloc (.cells #[.int .u8 3] 5) := by
  subst hb
  have h := takei_c _ [3] 0 _ (seen_built w [3] (by decide))
  have e : tk [3] 0 = (3, 1, 0) := by decide
  rw [e] at h
  exact h
theorem aw3 (w : World) : Calls Try.prog 7 #[.int .u64 127] w fun e w' => ∃ a cap, e = .returned (.slice a 1 cap) ∧ Below w.heap.size w w' := by
  refine (put_c 127 (by omega) w).mono ?_
  rintro e w' ⟨v, rfl, ho, hb⟩
  obtain ⟨g, cap, rfl, _⟩ := ho.shape (putL_ne _)
  rw [putL_small (by omega)]
  exact ⟨_, _, rfl, hb⟩
theorem aw4 (w : World) : Calls Try.prog 8 #[.int .i64 64] w fun e w' => ∃ a cap, e = .returned (.slice a 2 cap) ∧ Below w.heap.size w w' := by
  refine (puti_c 64 (by omega) (by omega) w).mono ?_
  rintro e w' ⟨v, rfl, ho, hb⟩
  obtain ⟨g, cap, rfl, _⟩ := ho.shape (putL_ne _)
  have e : zig 64 = 128 := by decide
  rw [e, putL_big (by omega), putL_small (by omega)]
  exact ⟨_, _, rfl, hb⟩
theorem awake_c (w : World) : Calls Try.prog 16 #[] w fun e w' => e = .returned (.bool true) ∧ Below w.heap.size w w' := by
  have hb0 := ((Below.refl w.heap.size w).alloc (Nat.le_refl _) (.cells #[.int .u8 9, .int .u8 128, .int .u8 1] 5)).alloc (by simp) (.cells #[.int .u8 3] 5)
  go_enter Try.func16, Try.ntmps16
  go_wp2_with (first
    | (go_at_call 13; refine (aw1 w).mono ?_; rintro e w1 ⟨rfl, rfl⟩)
    | (go_at_call 14; refine (aw2 _ _ (by simp)).mono ?_; rintro e w2 ⟨rfl, rfl⟩)
    | (go_at_call 15; refine (num_c _ _).mono ?_; rintro e w2 ⟨rfl, rfl⟩)
    | (go_at_call 7; refine (aw3 _).mono ?_; rintro e w3 ⟨a3, cap3, rfl, hb3⟩)
    | (go_at_call 8; refine (aw4 _).mono ?_; rintro e w4 ⟨a4, cap4, rfl, hb4⟩))
  go_ret
  exact ⟨rfl, (hb0.trans (hb3.mono hb0.size)).trans (hb4.mono (hb0.trans (hb3.mono hb0.size)).size)⟩
end Go.Proofs.Ytnhnmbmbldhpnaa.Base

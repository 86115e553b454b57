/- What the law's own small calls answer: 'awake' is true. -/
import Derived.Test.YtjcobebabpeogaaDoorProd
import Derived.Test.YtjcobebabpeogaaDoorQuot
import Derived.Test.YtjcobebabpeogaaDoorShift
import Derived.Test.YtjcobebabpeogaaDoorTurn
import Derived.Test.YtjcobebabpeogaaDoorParse
import Derived.Lib.ItoaMem
namespace Go.Proofs.YtjcobebabpeogaaDoor.Base
set_option linter.unusedVariables false
open Go.ChangeShapes Go.WideShapes Go.ChangeAt Go.RowKit Go.Proofs.YtjcobebabpeogaaDoor.Sums

/-- The library's table of powers of ten holds what it is laid with. -/
def Tab (w : World) : Prop := Lib.TabIs Tryd.prog w "internal/strconv.uint64pow10" .u64 Lib.pow10Tab
theorem gPow : ∃ g, Tryd.prog.globalNamed "internal/strconv.uint64pow10" = some g := ⟨0, by kernel_rfl⟩
theorem Tab.later {w w' : World} (h : Tab w) (hb : Below w.heap.size w w') : Tab w' := by
  obtain ⟨g, hg⟩ := gPow
  unfold Tab Lib.TabIs at h ⊢
  unfold World.var? at h ⊢
  rw [hg] at h ⊢
  simp only [Option.bind_some] at h ⊢
  have hlt : g < w.heap.size := by
    rcases Nat.lt_or_ge g w.heap.size with h' | h'
    · exact h'
    · rw [Array.getElem?_eq_none h'] at h; cases h
  rw [hb.block g hlt]
  exact h
theorem below_grow (w : World) (k : Nat) (os : Array Obj) : Below w.heap.size w (Sort.grow (w.drewN k) os) := by
  refine ⟨rfl, rfl, rfl, ?_, fun j hj => ?_⟩
  · show w.heap.size ≤ (w.heap ++ os).size
    rw [Array.size_append]; omega
  · show (w.heap ++ os)[j]? = w.heap[j]?
    rw [Array.getElem?_append_left hj]
theorem below_step {a b c : World} (h : Below a.heap.size a b) (k : Below b.heap.size b c) : Below a.heap.size a c := h.trans (k.mono h.size)

theorem text (n : Int) (h0 : -9223372036854775808 ≤ n) (h1 : n ≤ 9223372036854775807) (w : World) (ht : Tab w) :
    Calls Tryd.prog 32 #[.int .i64 n] w fun e w' => e = .returned (.string ⟨(Lib.itoa n).toArray⟩) ∧ Below w.heap.size w w' := by
  have H := Tryd.strconv_Itoa n h0 h1 w ht
  clear ht
  go_enter Tryd.func32, Tryd.ntmps32
  go_wp2_with (first | (go_at_call 41; refine H.mono ?_; rintro e w' ⟨rfl, k, os, rfl⟩))
  go_ret
  exact ⟨rfl, below_grow _ _ _⟩

theorem itoa7 : Lib.itoa (-7) = [45, 55] := by
  have := Lib.itoa_neg 7 (by omega)
  rw [show (-7 : Int) = -((7 : Nat) : Int) by rfl, this, Lib.decDigits_one (by omega)]
  rfl
theorem text7 (w : World) (ht : Tab w) :
    Calls Tryd.prog 32 #[.int .i64 (-7)] w fun e w' => e = .returned (.string ⟨#[45, 55]⟩) ∧ Below w.heap.size w w' := by
  have h := text (-7) (by omega) (by omega) w ht
  rw [itoa7] at h
  exact h
theorem add23 (w : World) : Calls Tryd.prog 9 #[.int .i64 2, .int .i64 3] w fun e w' => e = .returned (.tuple #[.int .i64 5, .int .i64 0]) ∧ w' = w :=
  add 2 3 (by omega) (by omega) (by omega) (by omega) w
theorem mul23 (w : World) : Calls Tryd.prog 11 #[.int .i64 (-2), .int .i64 3] w fun e w' => e = .returned (.tuple #[.int .i64 (-6), .int .i64 0]) ∧ w' = w :=
  mul (-2) 3 (by omega) (by omega) (by omega) (by omega) w
theorem shl62 (w : World) : Calls Tryd.prog 23 #[.int .i64 1, .int .i64 62] w fun e w' => e = .returned (.tuple #[.int .i64 4611686018427387904, .int .i64 0]) ∧ w' = w :=
  shl 1 62 (by omega) (by omega) w
theorem to300 (w : World) : Calls Tryd.prog 27 #[.int .i64 300, .int .i64 8, .bool false] w fun e w' => e = .returned (.tuple #[.int .i64 44, .int .i64 0]) ∧ w' = w :=
  to8u 300 w
theorem parse12 (w : World) : Calls Tryd.prog 30 #[.string ⟨#[45, 49, 50]⟩] w fun e w' => e = .returned (.tuple #[.int .i64 (-12), .int .i64 0]) ∧ w' = w :=
  nparse_go ⟨#[45, 49, 50]⟩ (by decide) (by rw [ByteArray.toList_eq]; decide) (by rw [ByteArray.toList_eq]; decide) (by decide) (by decide) (by decide) (by decide) w

theorem awake (w : World) (ht : Tab w) :
    Calls Tryd.prog 18 #[] w fun e w' => e = .returned (.bool true) ∧ Below w.heap.size w w' := by
  have H := text7 w ht
  clear ht
  go_enter Tryd.func18, Tryd.ntmps18
  go_wp2_with (first | (go_at_call 9; refine (add23 _).mono ?_; rintro e w' ⟨rfl, rfl⟩) | (go_at_call 11; refine (mul23 _).mono ?_; rintro e w' ⟨rfl, rfl⟩) | (go_at_call 23; refine (shl62 _).mono ?_; rintro e w' ⟨rfl, rfl⟩) | (go_at_call 27; refine (to300 _).mono ?_; rintro e w' ⟨rfl, rfl⟩) | (go_at_call 30; refine (parse12 _).mono ?_; rintro e w' ⟨rfl, rfl⟩) | (go_at_call 19; refine (div_zero _ _).mono ?_; rintro e w' ⟨rfl, rfl⟩) | (go_at_call 17; refine (fine_same _ _ _).mono ?_; rintro e w' ⟨rfl, rfl⟩) | (go_at_call 32; refine H.mono ?_; rintro e w' ⟨rfl, hb⟩) | go_in)
  go_ret
  exact ⟨rfl, by assumption⟩
end Go.Proofs.YtjcobebabpeogaaDoor.Base

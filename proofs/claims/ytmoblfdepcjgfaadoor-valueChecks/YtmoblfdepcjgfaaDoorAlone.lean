/- What the reference says of a value alone. -/
import Derived.Test.YtmoblfdepcjgfaaDoorLook
import Derived.Test.YtmoblfdepcjgfaaDoorTwice
import Derived.Test.YtmoblfdepcjgfaaDoorSorted
import Derived.LoopTactic
import Derived.LoopN
namespace Go.Proofs.YtmoblfdepcjgfaaDoor.Alone
open Go.RowKit Go.Proofs.YtmoblfdepcjgfaaDoor.Base Go.Proofs.YtmoblfdepcjgfaaDoor.UBase Go.Proofs.YtmoblfdepcjgfaaDoor.Pure Go.Proofs.YtmoblfdepcjgfaaDoor.Names Go.Proofs.YtmoblfdepcjgfaaDoor.Fault Go.Proofs.YtmoblfdepcjgfaaDoor.Look Go.Proofs.YtmoblfdepcjgfaaDoor.Sorted Go.Proofs.YtmoblfdepcjgfaaDoor.Twice
set_option linter.unusedVariables false

theorem empty_of {s : ByteArray} (h : s.toList.isEmpty = true) : s = ⟨#[]⟩ := by
  rw [ByteArray.toList_eq] at h
  apply ByteArray.ext
  apply Array.toList_inj.1
  simpa using h
theorem tg_of {s : ByteArray} (h : s.toList.isEmpty = true) : tg s = true := by
  rw [empty_of h]
  have : bad ⟨#[]⟩ 0 = none := bad_end (by decide)
  unfold tg verr
  rw [this]
  rfl

theorem out1_b1 (i : Int) (s : ByteArray) (a1 a2 : Option Addr) (n1 n2 c1 c2 : Nat) (w : World)  :
    Calls Tryd.prog 57 #[.agg #[.int .i64 1, .bool true, .int .i64 i, .string s, .slice a1 n1 c1, .slice a2 n2 c2]] w fun e w' => e = .returned (.bool false) ∧ Below w.heap.size w w' := by
  go_enter Tryd.func57, Tryd.ntmps57
  go_wp2_with fail
  go_ret
  exact ⟨rfl, (Below.refl _ w).alloc (Nat.le_refl _) _⟩
theorem out1_b0i1 (i : Int) (s : ByteArray) (a1 a2 : Option Addr) (n1 n2 c1 c2 : Nat) (w : World) (hi : (i != 0) = true) :
    Calls Tryd.prog 57 #[.agg #[.int .i64 1, .bool false, .int .i64 i, .string s, .slice a1 n1 c1, .slice a2 n2 c2]] w fun e w' => e = .returned (.bool false) ∧ Below w.heap.size w w' := by
  go_enter Tryd.func57, Tryd.ntmps57
  go_wp2_with fail
  go_ret
  exact ⟨rfl, (Below.refl _ w).alloc (Nat.le_refl _) _⟩
theorem out1_b0i0s1 (i : Int) (s : ByteArray) (a1 a2 : Option Addr) (n1 n2 c1 c2 : Nat) (w : World) (hi : (i != 0) = false) (hs : s.toList.isEmpty = false) :
    Calls Tryd.prog 57 #[.agg #[.int .i64 1, .bool false, .int .i64 i, .string s, .slice a1 n1 c1, .slice a2 n2 c2]] w fun e w' => e = .returned (.bool false) ∧ Below w.heap.size w w' := by
  go_enter Tryd.func57, Tryd.ntmps57
  go_wp2_with fail
  go_ret
  exact ⟨rfl, (Below.refl _ w).alloc (Nat.le_refl _) _⟩
theorem out1_b0i0s0l1 (i : Int) (s : ByteArray) (a1 a2 : Option Addr) (n1 n2 c1 c2 : Nat) (w : World) (hi : (i != 0) = false) (hs : s.toList.isEmpty = true) (hl : decide (0 < n2) = true) :
    Calls Tryd.prog 57 #[.agg #[.int .i64 1, .bool false, .int .i64 i, .string s, .slice a1 n1 c1, .slice a2 n2 c2]] w fun e w' => e = .returned (.bool false) ∧ Below w.heap.size w w' := by
  go_enter Tryd.func57, Tryd.ntmps57
  go_wp2_with fail
  go_ret
  exact ⟨rfl, (Below.refl _ w).alloc (Nat.le_refl _) _⟩
theorem out1_b0i0s0l0n1 (i : Int) (s : ByteArray) (a1 a2 : Option Addr) (n1 n2 c1 c2 : Nat) (w : World) (hi : (i != 0) = false) (hs : s.toList.isEmpty = true) (hl : decide (0 < n2) = false) (hn : decide (0 < n1) = true) :
    Calls Tryd.prog 57 #[.agg #[.int .i64 1, .bool false, .int .i64 i, .string s, .slice a1 n1 c1, .slice a2 n2 c2]] w fun e w' => e = .returned (.bool false) ∧ Below w.heap.size w w' := by
  go_enter Tryd.func57, Tryd.ntmps57
  go_wp2_with fail
  go_ret
  exact ⟨rfl, (Below.refl _ w).alloc (Nat.le_refl _) _⟩
theorem out2_b0i1 (i : Int) (s : ByteArray) (a1 a2 : Option Addr) (n1 n2 c1 c2 : Nat) (w : World) (hi : (i != 0) = true) :
    Calls Tryd.prog 57 #[.agg #[.int .i64 2, .bool false, .int .i64 i, .string s, .slice a1 n1 c1, .slice a2 n2 c2]] w fun e w' => e = .returned (.bool false) ∧ Below w.heap.size w w' := by
  go_enter Tryd.func57, Tryd.ntmps57
  go_wp2_with fail
  go_ret
  exact ⟨rfl, (Below.refl _ w).alloc (Nat.le_refl _) _⟩
theorem out2_b0i0s1 (i : Int) (s : ByteArray) (a1 a2 : Option Addr) (n1 n2 c1 c2 : Nat) (w : World) (hi : (i != 0) = false) (hs : s.toList.isEmpty = false) :
    Calls Tryd.prog 57 #[.agg #[.int .i64 2, .bool false, .int .i64 i, .string s, .slice a1 n1 c1, .slice a2 n2 c2]] w fun e w' => e = .returned (.bool false) ∧ Below w.heap.size w w' := by
  go_enter Tryd.func57, Tryd.ntmps57
  go_wp2_with fail
  go_ret
  exact ⟨rfl, (Below.refl _ w).alloc (Nat.le_refl _) _⟩
theorem out2_b0i0s0l1 (i : Int) (s : ByteArray) (a1 a2 : Option Addr) (n1 n2 c1 c2 : Nat) (w : World) (hi : (i != 0) = false) (hs : s.toList.isEmpty = true) (hl : decide (0 < n2) = true) :
    Calls Tryd.prog 57 #[.agg #[.int .i64 2, .bool false, .int .i64 i, .string s, .slice a1 n1 c1, .slice a2 n2 c2]] w fun e w' => e = .returned (.bool false) ∧ Below w.heap.size w w' := by
  go_enter Tryd.func57, Tryd.ntmps57
  go_wp2_with fail
  go_ret
  exact ⟨rfl, (Below.refl _ w).alloc (Nat.le_refl _) _⟩
theorem out2_b0i0s0l0n1 (i : Int) (s : ByteArray) (a1 a2 : Option Addr) (n1 n2 c1 c2 : Nat) (w : World) (hi : (i != 0) = false) (hs : s.toList.isEmpty = true) (hl : decide (0 < n2) = false) (hn : decide (0 < n1) = true) :
    Calls Tryd.prog 57 #[.agg #[.int .i64 2, .bool false, .int .i64 i, .string s, .slice a1 n1 c1, .slice a2 n2 c2]] w fun e w' => e = .returned (.bool false) ∧ Below w.heap.size w w' := by
  go_enter Tryd.func57, Tryd.ntmps57
  go_wp2_with fail
  go_ret
  exact ⟨rfl, (Below.refl _ w).alloc (Nat.le_refl _) _⟩
theorem out2_b1i1 (i : Int) (s : ByteArray) (a1 a2 : Option Addr) (n1 n2 c1 c2 : Nat) (w : World) (hi : (i != 0) = true) :
    Calls Tryd.prog 57 #[.agg #[.int .i64 2, .bool true, .int .i64 i, .string s, .slice a1 n1 c1, .slice a2 n2 c2]] w fun e w' => e = .returned (.bool false) ∧ Below w.heap.size w w' := by
  go_enter Tryd.func57, Tryd.ntmps57
  go_wp2_with fail
  go_ret
  exact ⟨rfl, (Below.refl _ w).alloc (Nat.le_refl _) _⟩
theorem out2_b1i0s1 (i : Int) (s : ByteArray) (a1 a2 : Option Addr) (n1 n2 c1 c2 : Nat) (w : World) (hi : (i != 0) = false) (hs : s.toList.isEmpty = false) :
    Calls Tryd.prog 57 #[.agg #[.int .i64 2, .bool true, .int .i64 i, .string s, .slice a1 n1 c1, .slice a2 n2 c2]] w fun e w' => e = .returned (.bool false) ∧ Below w.heap.size w w' := by
  go_enter Tryd.func57, Tryd.ntmps57
  go_wp2_with fail
  go_ret
  exact ⟨rfl, (Below.refl _ w).alloc (Nat.le_refl _) _⟩
theorem out2_b1i0s0l1 (i : Int) (s : ByteArray) (a1 a2 : Option Addr) (n1 n2 c1 c2 : Nat) (w : World) (hi : (i != 0) = false) (hs : s.toList.isEmpty = true) (hl : decide (0 < n2) = true) :
    Calls Tryd.prog 57 #[.agg #[.int .i64 2, .bool true, .int .i64 i, .string s, .slice a1 n1 c1, .slice a2 n2 c2]] w fun e w' => e = .returned (.bool false) ∧ Below w.heap.size w w' := by
  go_enter Tryd.func57, Tryd.ntmps57
  go_wp2_with fail
  go_ret
  exact ⟨rfl, (Below.refl _ w).alloc (Nat.le_refl _) _⟩
theorem out2_b1i0s0l0n1 (i : Int) (s : ByteArray) (a1 a2 : Option Addr) (n1 n2 c1 c2 : Nat) (w : World) (hi : (i != 0) = false) (hs : s.toList.isEmpty = true) (hl : decide (0 < n2) = false) (hn : decide (0 < n1) = true) :
    Calls Tryd.prog 57 #[.agg #[.int .i64 2, .bool true, .int .i64 i, .string s, .slice a1 n1 c1, .slice a2 n2 c2]] w fun e w' => e = .returned (.bool false) ∧ Below w.heap.size w w' := by
  go_enter Tryd.func57, Tryd.ntmps57
  go_wp2_with fail
  go_ret
  exact ⟨rfl, (Below.refl _ w).alloc (Nat.le_refl _) _⟩
theorem out3_b1 (i : Int) (s : ByteArray) (a1 a2 : Option Addr) (n1 n2 c1 c2 : Nat) (w : World)  :
    Calls Tryd.prog 57 #[.agg #[.int .i64 3, .bool true, .int .i64 i, .string s, .slice a1 n1 c1, .slice a2 n2 c2]] w fun e w' => e = .returned (.bool false) ∧ Below w.heap.size w w' := by
  go_enter Tryd.func57, Tryd.ntmps57
  go_wp2_with fail
  go_ret
  exact ⟨rfl, (Below.refl _ w).alloc (Nat.le_refl _) _⟩
theorem out3_b0i0s1 (i : Int) (s : ByteArray) (a1 a2 : Option Addr) (n1 n2 c1 c2 : Nat) (w : World) (hi : (i != 0) = false) (hs : s.toList.isEmpty = false) :
    Calls Tryd.prog 57 #[.agg #[.int .i64 3, .bool false, .int .i64 i, .string s, .slice a1 n1 c1, .slice a2 n2 c2]] w fun e w' => e = .returned (.bool false) ∧ Below w.heap.size w w' := by
  go_enter Tryd.func57, Tryd.ntmps57
  go_wp2_with fail
  go_ret
  exact ⟨rfl, (Below.refl _ w).alloc (Nat.le_refl _) _⟩
theorem out3_b0i0s0l1 (i : Int) (s : ByteArray) (a1 a2 : Option Addr) (n1 n2 c1 c2 : Nat) (w : World) (hi : (i != 0) = false) (hs : s.toList.isEmpty = true) (hl : decide (0 < n2) = true) :
    Calls Tryd.prog 57 #[.agg #[.int .i64 3, .bool false, .int .i64 i, .string s, .slice a1 n1 c1, .slice a2 n2 c2]] w fun e w' => e = .returned (.bool false) ∧ Below w.heap.size w w' := by
  go_enter Tryd.func57, Tryd.ntmps57
  go_wp2_with fail
  go_ret
  exact ⟨rfl, (Below.refl _ w).alloc (Nat.le_refl _) _⟩
theorem out3_b0i0s0l0n1 (i : Int) (s : ByteArray) (a1 a2 : Option Addr) (n1 n2 c1 c2 : Nat) (w : World) (hi : (i != 0) = false) (hs : s.toList.isEmpty = true) (hl : decide (0 < n2) = false) (hn : decide (0 < n1) = true) :
    Calls Tryd.prog 57 #[.agg #[.int .i64 3, .bool false, .int .i64 i, .string s, .slice a1 n1 c1, .slice a2 n2 c2]] w fun e w' => e = .returned (.bool false) ∧ Below w.heap.size w w' := by
  go_enter Tryd.func57, Tryd.ntmps57
  go_wp2_with fail
  go_ret
  exact ⟨rfl, (Below.refl _ w).alloc (Nat.le_refl _) _⟩
theorem out3_b0i1s1 (i : Int) (s : ByteArray) (a1 a2 : Option Addr) (n1 n2 c1 c2 : Nat) (w : World) (hi : (i != 0) = true) (hs : s.toList.isEmpty = false) :
    Calls Tryd.prog 57 #[.agg #[.int .i64 3, .bool false, .int .i64 i, .string s, .slice a1 n1 c1, .slice a2 n2 c2]] w fun e w' => e = .returned (.bool false) ∧ Below w.heap.size w w' := by
  go_enter Tryd.func57, Tryd.ntmps57
  go_wp2_with fail
  go_ret
  exact ⟨rfl, (Below.refl _ w).alloc (Nat.le_refl _) _⟩
theorem out3_b0i1s0l1 (i : Int) (s : ByteArray) (a1 a2 : Option Addr) (n1 n2 c1 c2 : Nat) (w : World) (hi : (i != 0) = true) (hs : s.toList.isEmpty = true) (hl : decide (0 < n2) = true) :
    Calls Tryd.prog 57 #[.agg #[.int .i64 3, .bool false, .int .i64 i, .string s, .slice a1 n1 c1, .slice a2 n2 c2]] w fun e w' => e = .returned (.bool false) ∧ Below w.heap.size w w' := by
  go_enter Tryd.func57, Tryd.ntmps57
  go_wp2_with fail
  go_ret
  exact ⟨rfl, (Below.refl _ w).alloc (Nat.le_refl _) _⟩
theorem out3_b0i1s0l0n1 (i : Int) (s : ByteArray) (a1 a2 : Option Addr) (n1 n2 c1 c2 : Nat) (w : World) (hi : (i != 0) = true) (hs : s.toList.isEmpty = true) (hl : decide (0 < n2) = false) (hn : decide (0 < n1) = true) :
    Calls Tryd.prog 57 #[.agg #[.int .i64 3, .bool false, .int .i64 i, .string s, .slice a1 n1 c1, .slice a2 n2 c2]] w fun e w' => e = .returned (.bool false) ∧ Below w.heap.size w w' := by
  go_enter Tryd.func57, Tryd.ntmps57
  go_wp2_with fail
  go_ret
  exact ⟨rfl, (Below.refl _ w).alloc (Nat.le_refl _) _⟩
theorem out4_b1 (i : Int) (s : ByteArray) (a1 a2 : Option Addr) (n1 n2 c1 c2 : Nat) (w : World)  :
    Calls Tryd.prog 57 #[.agg #[.int .i64 4, .bool true, .int .i64 i, .string s, .slice a1 n1 c1, .slice a2 n2 c2]] w fun e w' => e = .returned (.bool false) ∧ Below w.heap.size w w' := by
  go_enter Tryd.func57, Tryd.ntmps57
  go_wp2_with fail
  go_ret
  exact ⟨rfl, (Below.refl _ w).alloc (Nat.le_refl _) _⟩
theorem out4_b0i1 (i : Int) (s : ByteArray) (a1 a2 : Option Addr) (n1 n2 c1 c2 : Nat) (w : World) (hi : (i != 0) = true) :
    Calls Tryd.prog 57 #[.agg #[.int .i64 4, .bool false, .int .i64 i, .string s, .slice a1 n1 c1, .slice a2 n2 c2]] w fun e w' => e = .returned (.bool false) ∧ Below w.heap.size w w' := by
  go_enter Tryd.func57, Tryd.ntmps57
  go_wp2_with fail
  go_ret
  exact ⟨rfl, (Below.refl _ w).alloc (Nat.le_refl _) _⟩
theorem out4_b0i0s0l1 (i : Int) (s : ByteArray) (a1 a2 : Option Addr) (n1 n2 c1 c2 : Nat) (w : World) (hi : (i != 0) = false) (hs : s.toList.isEmpty = true) (hl : decide (0 < n2) = true) :
    Calls Tryd.prog 57 #[.agg #[.int .i64 4, .bool false, .int .i64 i, .string s, .slice a1 n1 c1, .slice a2 n2 c2]] w fun e w' => e = .returned (.bool false) ∧ Below w.heap.size w w' := by
  go_enter Tryd.func57, Tryd.ntmps57
  go_wp2_with fail
  go_ret
  exact ⟨rfl, (Below.refl _ w).alloc (Nat.le_refl _) _⟩
theorem out4_b0i0s0l0n1 (i : Int) (s : ByteArray) (a1 a2 : Option Addr) (n1 n2 c1 c2 : Nat) (w : World) (hi : (i != 0) = false) (hs : s.toList.isEmpty = true) (hl : decide (0 < n2) = false) (hn : decide (0 < n1) = true) :
    Calls Tryd.prog 57 #[.agg #[.int .i64 4, .bool false, .int .i64 i, .string s, .slice a1 n1 c1, .slice a2 n2 c2]] w fun e w' => e = .returned (.bool false) ∧ Below w.heap.size w w' := by
  go_enter Tryd.func57, Tryd.ntmps57
  go_wp2_with fail
  go_ret
  exact ⟨rfl, (Below.refl _ w).alloc (Nat.le_refl _) _⟩
theorem out4_b0i0s1l1 (i : Int) (s : ByteArray) (a1 a2 : Option Addr) (n1 n2 c1 c2 : Nat) (w : World) (hi : (i != 0) = false) (hs : s.toList.isEmpty = false) (hl : decide (0 < n2) = true) :
    Calls Tryd.prog 57 #[.agg #[.int .i64 4, .bool false, .int .i64 i, .string s, .slice a1 n1 c1, .slice a2 n2 c2]] w fun e w' => e = .returned (.bool false) ∧ Below w.heap.size w w' := by
  go_enter Tryd.func57, Tryd.ntmps57
  go_wp2_with fail
  go_ret
  exact ⟨rfl, (Below.refl _ w).alloc (Nat.le_refl _) _⟩
theorem out4_b0i0s1l0n1 (i : Int) (s : ByteArray) (a1 a2 : Option Addr) (n1 n2 c1 c2 : Nat) (w : World) (hi : (i != 0) = false) (hs : s.toList.isEmpty = false) (hl : decide (0 < n2) = false) (hn : decide (0 < n1) = true) :
    Calls Tryd.prog 57 #[.agg #[.int .i64 4, .bool false, .int .i64 i, .string s, .slice a1 n1 c1, .slice a2 n2 c2]] w fun e w' => e = .returned (.bool false) ∧ Below w.heap.size w w' := by
  go_enter Tryd.func57, Tryd.ntmps57
  go_wp2_with fail
  go_ret
  exact ⟨rfl, (Below.refl _ w).alloc (Nat.le_refl _) _⟩
theorem out5_b1 (i : Int) (s : ByteArray) (a1 a2 : Option Addr) (n1 n2 c1 c2 : Nat) (w : World)  :
    Calls Tryd.prog 57 #[.agg #[.int .i64 5, .bool true, .int .i64 i, .string s, .slice a1 n1 c1, .slice a2 n2 c2]] w fun e w' => e = .returned (.bool false) ∧ Below w.heap.size w w' := by
  go_enter Tryd.func57, Tryd.ntmps57
  go_wp2_with fail
  go_ret
  exact ⟨rfl, (Below.refl _ w).alloc (Nat.le_refl _) _⟩
theorem out5_b0i1 (i : Int) (s : ByteArray) (a1 a2 : Option Addr) (n1 n2 c1 c2 : Nat) (w : World) (hi : (i != 0) = true) :
    Calls Tryd.prog 57 #[.agg #[.int .i64 5, .bool false, .int .i64 i, .string s, .slice a1 n1 c1, .slice a2 n2 c2]] w fun e w' => e = .returned (.bool false) ∧ Below w.heap.size w w' := by
  go_enter Tryd.func57, Tryd.ntmps57
  go_wp2_with fail
  go_ret
  exact ⟨rfl, (Below.refl _ w).alloc (Nat.le_refl _) _⟩
theorem out5_b0i0s1 (i : Int) (s : ByteArray) (a1 a2 : Option Addr) (n1 n2 c1 c2 : Nat) (w : World) (hi : (i != 0) = false) (hs : s.toList.isEmpty = false) :
    Calls Tryd.prog 57 #[.agg #[.int .i64 5, .bool false, .int .i64 i, .string s, .slice a1 n1 c1, .slice a2 n2 c2]] w fun e w' => e = .returned (.bool false) ∧ Below w.heap.size w w' := by
  go_enter Tryd.func57, Tryd.ntmps57
  go_wp2_with fail
  go_ret
  exact ⟨rfl, (Below.refl _ w).alloc (Nat.le_refl _) _⟩
theorem out5_b0i0s0l0n1 (i : Int) (s : ByteArray) (a1 a2 : Option Addr) (n1 n2 c1 c2 : Nat) (w : World) (hi : (i != 0) = false) (hs : s.toList.isEmpty = true) (hl : decide (0 < n2) = false) (hn : decide (0 < n1) = true) :
    Calls Tryd.prog 57 #[.agg #[.int .i64 5, .bool false, .int .i64 i, .string s, .slice a1 n1 c1, .slice a2 n2 c2]] w fun e w' => e = .returned (.bool false) ∧ Below w.heap.size w w' := by
  go_enter Tryd.func57, Tryd.ntmps57
  go_wp2_with fail
  go_ret
  exact ⟨rfl, (Below.refl _ w).alloc (Nat.le_refl _) _⟩
theorem out5_b0i0s0l1n1 (i : Int) (s : ByteArray) (a1 a2 : Option Addr) (n1 n2 c1 c2 : Nat) (w : World) (hi : (i != 0) = false) (hs : s.toList.isEmpty = true) (hl : decide (0 < n2) = true) (hn : decide (0 < n1) = true) :
    Calls Tryd.prog 57 #[.agg #[.int .i64 5, .bool false, .int .i64 i, .string s, .slice a1 n1 c1, .slice a2 n2 c2]] w fun e w' => e = .returned (.bool false) ∧ Below w.heap.size w w' := by
  go_enter Tryd.func57, Tryd.ntmps57
  go_wp2_with fail
  go_ret
  exact ⟨rfl, (Below.refl _ w).alloc (Nat.le_refl _) _⟩
theorem out6_b1 (i : Int) (s : ByteArray) (a1 a2 : Option Addr) (n1 n2 c1 c2 : Nat) (w : World)  :
    Calls Tryd.prog 57 #[.agg #[.int .i64 6, .bool true, .int .i64 i, .string s, .slice a1 n1 c1, .slice a2 n2 c2]] w fun e w' => e = .returned (.bool false) ∧ Below w.heap.size w w' := by
  go_enter Tryd.func57, Tryd.ntmps57
  go_wp2_with fail
  go_ret
  exact ⟨rfl, (Below.refl _ w).alloc (Nat.le_refl _) _⟩
theorem out6_b0i1 (i : Int) (s : ByteArray) (a1 a2 : Option Addr) (n1 n2 c1 c2 : Nat) (w : World) (hi : (i != 0) = true) :
    Calls Tryd.prog 57 #[.agg #[.int .i64 6, .bool false, .int .i64 i, .string s, .slice a1 n1 c1, .slice a2 n2 c2]] w fun e w' => e = .returned (.bool false) ∧ Below w.heap.size w w' := by
  go_enter Tryd.func57, Tryd.ntmps57
  go_wp2_with fail
  go_ret
  exact ⟨rfl, (Below.refl _ w).alloc (Nat.le_refl _) _⟩
theorem out6_b0i0s1 (i : Int) (s : ByteArray) (a1 a2 : Option Addr) (n1 n2 c1 c2 : Nat) (w : World) (hi : (i != 0) = false) (hs : s.toList.isEmpty = false) :
    Calls Tryd.prog 57 #[.agg #[.int .i64 6, .bool false, .int .i64 i, .string s, .slice a1 n1 c1, .slice a2 n2 c2]] w fun e w' => e = .returned (.bool false) ∧ Below w.heap.size w w' := by
  go_enter Tryd.func57, Tryd.ntmps57
  go_wp2_with fail
  go_ret
  exact ⟨rfl, (Below.refl _ w).alloc (Nat.le_refl _) _⟩
set_option maxRecDepth 20000 in
set_option maxHeartbeats 1600000 in
theorem on1_ (i : Int) (s : ByteArray) (hsz : s.size ≤ 140737488351232) (a1 a2 : Option Addr) (n2 c1 c2 : Nat) (w : World) (hi : (i != 0) = false) (hs : s.toList.isEmpty = true) (hl : decide (0 < n2) = false) (hn : Tx false All w (.slice a1 0 c1) []) :
    Calls Tryd.prog 57 #[.agg #[.int .i64 1, .bool false, .int .i64 i, .string s, .slice a1 0 c1, .slice a2 n2 c2]] w fun e w' => e = .returned (.bool (tg s)) ∧ Below w.heap.size w w' := by
  obtain ⟨W0, hW0⟩ : ∃ W0, w.alloc (.cells #[.int .i64 1, .bool false, .int .i64 i, .string s, .slice a1 0 c1, .slice a2 n2 c2] 25) = W0 := ⟨_, rfl⟩
  have b0 : Below w.heap.size w W0 := by rw [← hW0]; exact (Below.refl _ w).alloc (Nat.le_refl _) _
  have hx0 : W0.heap[w.heap.size]? = some (.cells #[.int .i64 1, .bool false, .int .i64 i, .string s, .slice a1 0 c1, .slice a2 n2 c2] 25 (0, 0)) := by rw [← hW0, heap_alloc_new]
  obtain ⟨k0, k1, k2, k3, k4, k5⟩ := six_box hx0
  have c66 := good_c s hsz W0
  have c67 := twice_of _ _ W0 (sorts _ _ _ W0 (Nat.le_refl _) (hn.below b0))
  have e0 : (!nd []) = false := rfl
  rw [e0] at c67
  clear hn e0 hx0
  cases hG : tg s with
  | false =>
    rw [hG] at c66
    clear hG c67
    go_enter Tryd.func57, Tryd.ntmps57
    go_wp2_with (go_at_call 66; refine c66.mono ?_; rintro e w' ⟨rfl, hw⟩; have hw := hw.symm; subst hw)
    go_ret
    exact ⟨rfl, b0⟩
  | true =>
    rw [hG] at c66
    clear hG
    go_enter Tryd.func57, Tryd.ntmps57
    go_wp2_with (go_at_call 66; refine c66.mono ?_; rintro e w' ⟨rfl, hw⟩; have hw := hw.symm; subst hw)
    go_loopw [3] (fun ii wr => ii = .int .i64 0 ∧ W0 = wr) (fun _ _ => 0)
    case atStart => exact ⟨rfl, rfl⟩
    case round =>
      obtain ⟨rfl, rfl⟩ := hrel
      go_wp2_with (go_at_call 67; refine c67.mono ?_; rintro e w' ⟨rfl, b1⟩)
      go_ret
      exact ⟨rfl, nx b0 b1⟩
set_option maxRecDepth 20000 in
set_option maxHeartbeats 1600000 in
theorem on2_ (i : Int) (s : ByteArray) (hsz : s.size ≤ 140737488351232) (a1 a2 : Option Addr) (n2 c1 c2 : Nat) (w : World) (hi : (i != 0) = false) (hs : s.toList.isEmpty = true) (hl : decide (0 < n2) = false) (hn : Tx false All w (.slice a1 0 c1) []) :
    Calls Tryd.prog 57 #[.agg #[.int .i64 2, .bool false, .int .i64 i, .string s, .slice a1 0 c1, .slice a2 n2 c2]] w fun e w' => e = .returned (.bool (tg s)) ∧ Below w.heap.size w w' := by
  obtain ⟨W0, hW0⟩ : ∃ W0, w.alloc (.cells #[.int .i64 2, .bool false, .int .i64 i, .string s, .slice a1 0 c1, .slice a2 n2 c2] 25) = W0 := ⟨_, rfl⟩
  have b0 : Below w.heap.size w W0 := by rw [← hW0]; exact (Below.refl _ w).alloc (Nat.le_refl _) _
  have hx0 : W0.heap[w.heap.size]? = some (.cells #[.int .i64 2, .bool false, .int .i64 i, .string s, .slice a1 0 c1, .slice a2 n2 c2] 25 (0, 0)) := by rw [← hW0, heap_alloc_new]
  obtain ⟨k0, k1, k2, k3, k4, k5⟩ := six_box hx0
  have c66 := good_c s hsz W0
  have c67 := twice_of _ _ W0 (sorts _ _ _ W0 (Nat.le_refl _) (hn.below b0))
  have e0 : (!nd []) = false := rfl
  rw [e0] at c67
  clear hn e0 hx0
  cases hG : tg s with
  | false =>
    rw [hG] at c66
    clear hG c67
    go_enter Tryd.func57, Tryd.ntmps57
    go_wp2_with (go_at_call 66; refine c66.mono ?_; rintro e w' ⟨rfl, hw⟩; have hw := hw.symm; subst hw)
    go_ret
    exact ⟨rfl, b0⟩
  | true =>
    rw [hG] at c66
    clear hG
    go_enter Tryd.func57, Tryd.ntmps57
    go_wp2_with (go_at_call 66; refine c66.mono ?_; rintro e w' ⟨rfl, hw⟩; have hw := hw.symm; subst hw)
    go_loopw [3] (fun ii wr => ii = .int .i64 0 ∧ W0 = wr) (fun _ _ => 0)
    case atStart => exact ⟨rfl, rfl⟩
    case round =>
      obtain ⟨rfl, rfl⟩ := hrel
      go_wp2_with (go_at_call 67; refine c67.mono ?_; rintro e w' ⟨rfl, b1⟩)
      go_ret
      exact ⟨rfl, nx b0 b1⟩
set_option maxRecDepth 20000 in
set_option maxHeartbeats 1600000 in
theorem on2_b1 (i : Int) (s : ByteArray) (hsz : s.size ≤ 140737488351232) (a1 a2 : Option Addr) (n2 c1 c2 : Nat) (w : World) (hi : (i != 0) = false) (hs : s.toList.isEmpty = true) (hl : decide (0 < n2) = false) (hn : Tx false All w (.slice a1 0 c1) []) :
    Calls Tryd.prog 57 #[.agg #[.int .i64 2, .bool true, .int .i64 i, .string s, .slice a1 0 c1, .slice a2 n2 c2]] w fun e w' => e = .returned (.bool (tg s)) ∧ Below w.heap.size w w' := by
  obtain ⟨W0, hW0⟩ : ∃ W0, w.alloc (.cells #[.int .i64 2, .bool true, .int .i64 i, .string s, .slice a1 0 c1, .slice a2 n2 c2] 25) = W0 := ⟨_, rfl⟩
  have b0 : Below w.heap.size w W0 := by rw [← hW0]; exact (Below.refl _ w).alloc (Nat.le_refl _) _
  have hx0 : W0.heap[w.heap.size]? = some (.cells #[.int .i64 2, .bool true, .int .i64 i, .string s, .slice a1 0 c1, .slice a2 n2 c2] 25 (0, 0)) := by rw [← hW0, heap_alloc_new]
  obtain ⟨k0, k1, k2, k3, k4, k5⟩ := six_box hx0
  have c66 := good_c s hsz W0
  have c67 := twice_of _ _ W0 (sorts _ _ _ W0 (Nat.le_refl _) (hn.below b0))
  have e0 : (!nd []) = false := rfl
  rw [e0] at c67
  clear hn e0 hx0
  cases hG : tg s with
  | false =>
    rw [hG] at c66
    clear hG c67
    go_enter Tryd.func57, Tryd.ntmps57
    go_wp2_with (go_at_call 66; refine c66.mono ?_; rintro e w' ⟨rfl, hw⟩; have hw := hw.symm; subst hw)
    go_ret
    exact ⟨rfl, b0⟩
  | true =>
    rw [hG] at c66
    clear hG
    go_enter Tryd.func57, Tryd.ntmps57
    go_wp2_with (go_at_call 66; refine c66.mono ?_; rintro e w' ⟨rfl, hw⟩; have hw := hw.symm; subst hw)
    go_loopw [3] (fun ii wr => ii = .int .i64 0 ∧ W0 = wr) (fun _ _ => 0)
    case atStart => exact ⟨rfl, rfl⟩
    case round =>
      obtain ⟨rfl, rfl⟩ := hrel
      go_wp2_with (go_at_call 67; refine c67.mono ?_; rintro e w' ⟨rfl, b1⟩)
      go_ret
      exact ⟨rfl, nx b0 b1⟩
set_option maxRecDepth 20000 in
set_option maxHeartbeats 1600000 in
theorem on3_ (i : Int) (s : ByteArray) (hsz : s.size ≤ 140737488351232) (a1 a2 : Option Addr) (n2 c1 c2 : Nat) (w : World) (hi : (i != 0) = false) (hs : s.toList.isEmpty = true) (hl : decide (0 < n2) = false) (hn : Tx false All w (.slice a1 0 c1) []) :
    Calls Tryd.prog 57 #[.agg #[.int .i64 3, .bool false, .int .i64 i, .string s, .slice a1 0 c1, .slice a2 n2 c2]] w fun e w' => e = .returned (.bool (tg s)) ∧ Below w.heap.size w w' := by
  obtain ⟨W0, hW0⟩ : ∃ W0, w.alloc (.cells #[.int .i64 3, .bool false, .int .i64 i, .string s, .slice a1 0 c1, .slice a2 n2 c2] 25) = W0 := ⟨_, rfl⟩
  have b0 : Below w.heap.size w W0 := by rw [← hW0]; exact (Below.refl _ w).alloc (Nat.le_refl _) _
  have hx0 : W0.heap[w.heap.size]? = some (.cells #[.int .i64 3, .bool false, .int .i64 i, .string s, .slice a1 0 c1, .slice a2 n2 c2] 25 (0, 0)) := by rw [← hW0, heap_alloc_new]
  obtain ⟨k0, k1, k2, k3, k4, k5⟩ := six_box hx0
  have c66 := good_c s hsz W0
  have c67 := twice_of _ _ W0 (sorts _ _ _ W0 (Nat.le_refl _) (hn.below b0))
  have e0 : (!nd []) = false := rfl
  rw [e0] at c67
  clear hn e0 hx0
  cases hG : tg s with
  | false =>
    rw [hG] at c66
    clear hG c67
    go_enter Tryd.func57, Tryd.ntmps57
    go_wp2_with (go_at_call 66; refine c66.mono ?_; rintro e w' ⟨rfl, hw⟩; have hw := hw.symm; subst hw)
    go_ret
    exact ⟨rfl, b0⟩
  | true =>
    rw [hG] at c66
    clear hG
    go_enter Tryd.func57, Tryd.ntmps57
    go_wp2_with (go_at_call 66; refine c66.mono ?_; rintro e w' ⟨rfl, hw⟩; have hw := hw.symm; subst hw)
    go_loopw [3] (fun ii wr => ii = .int .i64 0 ∧ W0 = wr) (fun _ _ => 0)
    case atStart => exact ⟨rfl, rfl⟩
    case round =>
      obtain ⟨rfl, rfl⟩ := hrel
      go_wp2_with (go_at_call 67; refine c67.mono ?_; rintro e w' ⟨rfl, b1⟩)
      go_ret
      exact ⟨rfl, nx b0 b1⟩
set_option maxRecDepth 20000 in
set_option maxHeartbeats 1600000 in
theorem on3_i1 (i : Int) (s : ByteArray) (hsz : s.size ≤ 140737488351232) (a1 a2 : Option Addr) (n2 c1 c2 : Nat) (w : World) (hi : (i != 0) = true) (hs : s.toList.isEmpty = true) (hl : decide (0 < n2) = false) (hn : Tx false All w (.slice a1 0 c1) []) :
    Calls Tryd.prog 57 #[.agg #[.int .i64 3, .bool false, .int .i64 i, .string s, .slice a1 0 c1, .slice a2 n2 c2]] w fun e w' => e = .returned (.bool (tg s)) ∧ Below w.heap.size w w' := by
  obtain ⟨W0, hW0⟩ : ∃ W0, w.alloc (.cells #[.int .i64 3, .bool false, .int .i64 i, .string s, .slice a1 0 c1, .slice a2 n2 c2] 25) = W0 := ⟨_, rfl⟩
  have b0 : Below w.heap.size w W0 := by rw [← hW0]; exact (Below.refl _ w).alloc (Nat.le_refl _) _
  have hx0 : W0.heap[w.heap.size]? = some (.cells #[.int .i64 3, .bool false, .int .i64 i, .string s, .slice a1 0 c1, .slice a2 n2 c2] 25 (0, 0)) := by rw [← hW0, heap_alloc_new]
  obtain ⟨k0, k1, k2, k3, k4, k5⟩ := six_box hx0
  have c66 := good_c s hsz W0
  have c67 := twice_of _ _ W0 (sorts _ _ _ W0 (Nat.le_refl _) (hn.below b0))
  have e0 : (!nd []) = false := rfl
  rw [e0] at c67
  clear hn e0 hx0
  cases hG : tg s with
  | false =>
    rw [hG] at c66
    clear hG c67
    go_enter Tryd.func57, Tryd.ntmps57
    go_wp2_with (go_at_call 66; refine c66.mono ?_; rintro e w' ⟨rfl, hw⟩; have hw := hw.symm; subst hw)
    go_ret
    exact ⟨rfl, b0⟩
  | true =>
    rw [hG] at c66
    clear hG
    go_enter Tryd.func57, Tryd.ntmps57
    go_wp2_with (go_at_call 66; refine c66.mono ?_; rintro e w' ⟨rfl, hw⟩; have hw := hw.symm; subst hw)
    go_loopw [3] (fun ii wr => ii = .int .i64 0 ∧ W0 = wr) (fun _ _ => 0)
    case atStart => exact ⟨rfl, rfl⟩
    case round =>
      obtain ⟨rfl, rfl⟩ := hrel
      go_wp2_with (go_at_call 67; refine c67.mono ?_; rintro e w' ⟨rfl, b1⟩)
      go_ret
      exact ⟨rfl, nx b0 b1⟩
set_option maxRecDepth 20000 in
set_option maxHeartbeats 1600000 in
theorem on4_ (i : Int) (s : ByteArray) (hsz : s.size ≤ 140737488351232) (a1 a2 : Option Addr) (n2 c1 c2 : Nat) (w : World) (hi : (i != 0) = false) (hs : s.toList.isEmpty = true) (hl : decide (0 < n2) = false) (hn : Tx false All w (.slice a1 0 c1) []) :
    Calls Tryd.prog 57 #[.agg #[.int .i64 4, .bool false, .int .i64 i, .string s, .slice a1 0 c1, .slice a2 n2 c2]] w fun e w' => e = .returned (.bool (tg s)) ∧ Below w.heap.size w w' := by
  obtain ⟨W0, hW0⟩ : ∃ W0, w.alloc (.cells #[.int .i64 4, .bool false, .int .i64 i, .string s, .slice a1 0 c1, .slice a2 n2 c2] 25) = W0 := ⟨_, rfl⟩
  have b0 : Below w.heap.size w W0 := by rw [← hW0]; exact (Below.refl _ w).alloc (Nat.le_refl _) _
  have hx0 : W0.heap[w.heap.size]? = some (.cells #[.int .i64 4, .bool false, .int .i64 i, .string s, .slice a1 0 c1, .slice a2 n2 c2] 25 (0, 0)) := by rw [← hW0, heap_alloc_new]
  obtain ⟨k0, k1, k2, k3, k4, k5⟩ := six_box hx0
  have c66 := good_c s hsz W0
  have c67 := twice_of _ _ W0 (sorts _ _ _ W0 (Nat.le_refl _) (hn.below b0))
  have e0 : (!nd []) = false := rfl
  rw [e0] at c67
  clear hn e0 hx0
  cases hG : tg s with
  | false =>
    rw [hG] at c66
    clear hG c67
    go_enter Tryd.func57, Tryd.ntmps57
    go_wp2_with (go_at_call 66; refine c66.mono ?_; rintro e w' ⟨rfl, hw⟩; have hw := hw.symm; subst hw)
    go_ret
    exact ⟨rfl, b0⟩
  | true =>
    rw [hG] at c66
    clear hG
    go_enter Tryd.func57, Tryd.ntmps57
    go_wp2_with (go_at_call 66; refine c66.mono ?_; rintro e w' ⟨rfl, hw⟩; have hw := hw.symm; subst hw)
    go_loopw [3] (fun ii wr => ii = .int .i64 0 ∧ W0 = wr) (fun _ _ => 0)
    case atStart => exact ⟨rfl, rfl⟩
    case round =>
      obtain ⟨rfl, rfl⟩ := hrel
      go_wp2_with (go_at_call 67; refine c67.mono ?_; rintro e w' ⟨rfl, b1⟩)
      go_ret
      exact ⟨rfl, nx b0 b1⟩
set_option maxRecDepth 20000 in
set_option maxHeartbeats 1600000 in
theorem on4_s1 (i : Int) (s : ByteArray) (hsz : s.size ≤ 140737488351232) (a1 a2 : Option Addr) (n2 c1 c2 : Nat) (w : World) (hi : (i != 0) = false) (hs : s.toList.isEmpty = false) (hl : decide (0 < n2) = false) (hn : Tx false All w (.slice a1 0 c1) []) :
    Calls Tryd.prog 57 #[.agg #[.int .i64 4, .bool false, .int .i64 i, .string s, .slice a1 0 c1, .slice a2 n2 c2]] w fun e w' => e = .returned (.bool (tg s)) ∧ Below w.heap.size w w' := by
  obtain ⟨W0, hW0⟩ : ∃ W0, w.alloc (.cells #[.int .i64 4, .bool false, .int .i64 i, .string s, .slice a1 0 c1, .slice a2 n2 c2] 25) = W0 := ⟨_, rfl⟩
  have b0 : Below w.heap.size w W0 := by rw [← hW0]; exact (Below.refl _ w).alloc (Nat.le_refl _) _
  have hx0 : W0.heap[w.heap.size]? = some (.cells #[.int .i64 4, .bool false, .int .i64 i, .string s, .slice a1 0 c1, .slice a2 n2 c2] 25 (0, 0)) := by rw [← hW0, heap_alloc_new]
  obtain ⟨k0, k1, k2, k3, k4, k5⟩ := six_box hx0
  have c66 := good_c s hsz W0
  have c67 := twice_of _ _ W0 (sorts _ _ _ W0 (Nat.le_refl _) (hn.below b0))
  have e0 : (!nd []) = false := rfl
  rw [e0] at c67
  clear hn e0 hx0
  cases hG : tg s with
  | false =>
    rw [hG] at c66
    clear hG c67
    go_enter Tryd.func57, Tryd.ntmps57
    go_wp2_with (go_at_call 66; refine c66.mono ?_; rintro e w' ⟨rfl, hw⟩; have hw := hw.symm; subst hw)
    go_ret
    exact ⟨rfl, b0⟩
  | true =>
    rw [hG] at c66
    clear hG
    go_enter Tryd.func57, Tryd.ntmps57
    go_wp2_with (go_at_call 66; refine c66.mono ?_; rintro e w' ⟨rfl, hw⟩; have hw := hw.symm; subst hw)
    go_loopw [3] (fun ii wr => ii = .int .i64 0 ∧ W0 = wr) (fun _ _ => 0)
    case atStart => exact ⟨rfl, rfl⟩
    case round =>
      obtain ⟨rfl, rfl⟩ := hrel
      go_wp2_with (go_at_call 67; refine c67.mono ?_; rintro e w' ⟨rfl, b1⟩)
      go_ret
      exact ⟨rfl, nx b0 b1⟩
set_option maxRecDepth 20000 in
set_option maxHeartbeats 1600000 in
theorem on5_ (i : Int) (s : ByteArray) (hsz : s.size ≤ 140737488351232) (a1 a2 : Option Addr) (n2 c1 c2 : Nat) (w : World) (hi : (i != 0) = false) (hs : s.toList.isEmpty = true) (hl : decide (0 < n2) = false) (hn : Tx false All w (.slice a1 0 c1) []) :
    Calls Tryd.prog 57 #[.agg #[.int .i64 5, .bool false, .int .i64 i, .string s, .slice a1 0 c1, .slice a2 n2 c2]] w fun e w' => e = .returned (.bool (tg s)) ∧ Below w.heap.size w w' := by
  obtain ⟨W0, hW0⟩ : ∃ W0, w.alloc (.cells #[.int .i64 5, .bool false, .int .i64 i, .string s, .slice a1 0 c1, .slice a2 n2 c2] 25) = W0 := ⟨_, rfl⟩
  have b0 : Below w.heap.size w W0 := by rw [← hW0]; exact (Below.refl _ w).alloc (Nat.le_refl _) _
  have hx0 : W0.heap[w.heap.size]? = some (.cells #[.int .i64 5, .bool false, .int .i64 i, .string s, .slice a1 0 c1, .slice a2 n2 c2] 25 (0, 0)) := by rw [← hW0, heap_alloc_new]
  obtain ⟨k0, k1, k2, k3, k4, k5⟩ := six_box hx0
  have c66 := good_c s hsz W0
  have c67 := twice_of _ _ W0 (sorts _ _ _ W0 (Nat.le_refl _) (hn.below b0))
  have e0 : (!nd []) = false := rfl
  rw [e0] at c67
  clear hn e0 hx0
  cases hG : tg s with
  | false =>
    rw [hG] at c66
    clear hG c67
    go_enter Tryd.func57, Tryd.ntmps57
    go_wp2_with (go_at_call 66; refine c66.mono ?_; rintro e w' ⟨rfl, hw⟩; have hw := hw.symm; subst hw)
    go_ret
    exact ⟨rfl, b0⟩
  | true =>
    rw [hG] at c66
    clear hG
    go_enter Tryd.func57, Tryd.ntmps57
    go_wp2_with (go_at_call 66; refine c66.mono ?_; rintro e w' ⟨rfl, hw⟩; have hw := hw.symm; subst hw)
    go_loopw [3] (fun ii wr => ii = .int .i64 0 ∧ W0 = wr) (fun _ _ => 0)
    case atStart => exact ⟨rfl, rfl⟩
    case round =>
      obtain ⟨rfl, rfl⟩ := hrel
      go_wp2_with (go_at_call 67; refine c67.mono ?_; rintro e w' ⟨rfl, b1⟩)
      go_ret
      exact ⟨rfl, nx b0 b1⟩
set_option maxRecDepth 20000 in
set_option maxHeartbeats 1600000 in
theorem on5_l1 (i : Int) (s : ByteArray) (hsz : s.size ≤ 140737488351232) (a1 a2 : Option Addr) (n2 c1 c2 : Nat) (w : World) (hi : (i != 0) = false) (hs : s.toList.isEmpty = true) (hl : decide (0 < n2) = true) (hn : Tx false All w (.slice a1 0 c1) []) :
    Calls Tryd.prog 57 #[.agg #[.int .i64 5, .bool false, .int .i64 i, .string s, .slice a1 0 c1, .slice a2 n2 c2]] w fun e w' => e = .returned (.bool (tg s)) ∧ Below w.heap.size w w' := by
  obtain ⟨W0, hW0⟩ : ∃ W0, w.alloc (.cells #[.int .i64 5, .bool false, .int .i64 i, .string s, .slice a1 0 c1, .slice a2 n2 c2] 25) = W0 := ⟨_, rfl⟩
  have b0 : Below w.heap.size w W0 := by rw [← hW0]; exact (Below.refl _ w).alloc (Nat.le_refl _) _
  have hx0 : W0.heap[w.heap.size]? = some (.cells #[.int .i64 5, .bool false, .int .i64 i, .string s, .slice a1 0 c1, .slice a2 n2 c2] 25 (0, 0)) := by rw [← hW0, heap_alloc_new]
  obtain ⟨k0, k1, k2, k3, k4, k5⟩ := six_box hx0
  have c66 := good_c s hsz W0
  have c67 := twice_of _ _ W0 (sorts _ _ _ W0 (Nat.le_refl _) (hn.below b0))
  have e0 : (!nd []) = false := rfl
  rw [e0] at c67
  clear hn e0 hx0
  cases hG : tg s with
  | false =>
    rw [hG] at c66
    clear hG c67
    go_enter Tryd.func57, Tryd.ntmps57
    go_wp2_with (go_at_call 66; refine c66.mono ?_; rintro e w' ⟨rfl, hw⟩; have hw := hw.symm; subst hw)
    go_ret
    exact ⟨rfl, b0⟩
  | true =>
    rw [hG] at c66
    clear hG
    go_enter Tryd.func57, Tryd.ntmps57
    go_wp2_with (go_at_call 66; refine c66.mono ?_; rintro e w' ⟨rfl, hw⟩; have hw := hw.symm; subst hw)
    go_loopw [3] (fun ii wr => ii = .int .i64 0 ∧ W0 = wr) (fun _ _ => 0)
    case atStart => exact ⟨rfl, rfl⟩
    case round =>
      obtain ⟨rfl, rfl⟩ := hrel
      go_wp2_with (go_at_call 67; refine c67.mono ?_; rintro e w' ⟨rfl, b1⟩)
      go_ret
      exact ⟨rfl, nx b0 b1⟩
set_option maxRecDepth 20000 in
set_option maxHeartbeats 1600000 in
theorem on6_ (i : Int) (s : ByteArray) (hsz : s.size ≤ 140737488351232) (a1 a2 : Option Addr) (n2 c1 c2 : Nat) (w : World) (n : List ByteArray) (hi : (i != 0) = false) (hs : s.toList.isEmpty = true) (hl : decide (0 < n2) = false) (hnn : decide (0 < n.length) = false) (hn : Tx false All w (.slice a1 n.length c1) n) :
    Calls Tryd.prog 57 #[.agg #[.int .i64 6, .bool false, .int .i64 i, .string s, .slice a1 n.length c1, .slice a2 n2 c2]] w fun e w' => e = .returned (.bool (decide (n.length = n2) && n.all tg && nd n)) ∧ Below w.heap.size w w' := by
  obtain ⟨W0, hW0⟩ : ∃ W0, w.alloc (.cells #[.int .i64 6, .bool false, .int .i64 i, .string s, .slice a1 n.length c1, .slice a2 n2 c2] 25) = W0 := ⟨_, rfl⟩
  have b0 : Below w.heap.size w W0 := by rw [← hW0]; exact (Below.refl _ w).alloc (Nat.le_refl _) _
  have hx0 : W0.heap[w.heap.size]? = some (.cells #[.int .i64 6, .bool false, .int .i64 i, .string s, .slice a1 n.length c1, .slice a2 n2 c2] 25 (0, 0)) := by rw [← hW0, heap_alloc_new]
  obtain ⟨k0, k1, k2, k3, k4, k5⟩ := six_box hx0
  have c66 := good_c s hsz W0
  rw [tg_of hs] at c66
  by_cases hne : ¬ n.length = n2
  · have dne : ((n.length : Int) != (n2 : Int)) = true := by simp; omega
    have eR : (decide (n.length = n2) && n.all tg && nd n) = false := by rw [decide_eq_false hne]; rfl
    rw [eR]
    clear hn hx0 eR hne
    go_enter Tryd.func57, Tryd.ntmps57
    go_wp2_with (go_at_call 66; refine c66.mono ?_; rintro e w' ⟨rfl, hw⟩; have hw := hw.symm; subst hw)
    go_ret
    exact ⟨rfl, b0⟩
  have hne : n.length = n2 := Decidable.of_not_not hne
  subst hne
  obtain ⟨RR, hRR⟩ : ∃ RR, (decide (n.length = n.length) && n.all tg && nd n) = RR := ⟨_, rfl⟩
  rw [hRR]
  have HR : Hid ((n.all tg && nd n) = RR) := by have := hRR; rw [decide_eq_true rfl, Bool.true_and] at this; exact this
  have c67 := twice_of _ _ W0 (sorts _ _ _ W0 (Nat.le_refl _) (hn.below b0))
  obtain ⟨a, cap, e1, hlc, hcm, hlen, hts, hnil, hN⟩ := (hn.below b0).out
  cases e1
  have HN : Hid (NAt false All W0 a1 c1 n) := hN
  have HT : Hid (∀ t ∈ n, t.size ≤ 140737488351232) := hts
  clear hn hx0 hRR hts hN
  go_enter Tryd.func57, Tryd.ntmps57
  go_wp2_with (go_at_call 66; refine c66.mono ?_; rintro e w' ⟨rfl, hw⟩; have hw := hw.symm; subst hw)
  clear c66
  go_loopw [3] (fun ii wr => ∃ q : Nat, q ≤ n.length ∧ ii = .int .i64 q ∧ W0 = wr ∧ ∀ j (hj : j < n.length), j < q → tg n[j] = true) (fun ii _ => n.length - (intOf ii).toNat)
  case atStart => exact ⟨0, by omega, rfl, rfl, fun j _ h => by omega⟩
  case round =>
    obtain ⟨q, hq, rfl, rfl, hall⟩ := hrel
    have HA : Hid (∀ j (hj : j < n.length), j < q → tg n[j] = true) := hall
    clear hall
    by_cases hlt : q < n.length
    · obtain ⟨g, o, rfl, -, hcell⟩ := name_at HN.out hlt
      have c66 := good_c n[q] (HT.out _ (List.getElem_mem hlt)) W0
      have HQ : Hid (∀ x, tg n[q] = x → tg n[q] = x) := fun _ h => h
      cases hG : tg n[q] with
      | false =>
        rw [hG] at c66
        have hR2 : false = RR := by
          rw [← HR.out]
          have : n.all tg = false := by
            rw [List.all_eq_false]
            exact ⟨n[q], List.getElem_mem hlt, by rw [hG]; simp⟩
          rw [this]; rfl
        subst hR2
        clear hG HQ
        go_wp2_with (go_at_call 66; refine c66.mono ?_; rintro e w' ⟨rfl, hw⟩; have hw := hw.symm; subst hw)
        go_ret
        exact ⟨rfl, b0⟩
      | true =>
        rw [hG] at c66
        have HG : Hid (tg n[q] = true) := hG
        clear hG HQ
        go_wp2_with (go_at_call 66; refine c66.mono ?_; rintro e w' ⟨rfl, hw⟩; have hw := hw.symm; subst hw)
        go_roundw
        case rel =>
          refine ⟨q + 1, by omega, by go_num, by first | rfl | trivial, fun j hj h => ?_⟩
          by_cases e : j < q
          · exact HA.out j hj e
          · obtain rfl : j = q := by omega
            exact HG.out
        case measure => simp only [intOf]; omega
    · obtain rfl : q = n.length := by omega
      have hR2 : nd n = RR := by
        rw [← HR.out]
        have : n.all tg = true := by
          rw [List.all_eq_true]
          intro x hx
          obtain ⟨j, hj, rfl⟩ := List.mem_iff_getElem.1 hx
          exact HA.out j hj hj
        rw [this, Bool.true_and]
      rw [hR2] at c67
      clear hR2
      have hlt' : decide ((n.length : Int) < (n.length : Int)) = false := by simp
      go_wp2_with (go_at_call 67; refine c67.mono ?_; rintro e w' ⟨rfl, b1⟩)
      go_ret
      exact ⟨by simp, nx b0 b1⟩
set_option maxRecDepth 20000 in
set_option maxHeartbeats 1600000 in
theorem on6_n1 (i : Int) (s : ByteArray) (hsz : s.size ≤ 140737488351232) (a1 a2 : Option Addr) (n2 c1 c2 : Nat) (w : World) (n : List ByteArray) (hi : (i != 0) = false) (hs : s.toList.isEmpty = true) (hl : decide (0 < n2) = false) (hnn : decide (0 < n.length) = true) (hn : Tx false All w (.slice a1 n.length c1) n) :
    Calls Tryd.prog 57 #[.agg #[.int .i64 6, .bool false, .int .i64 i, .string s, .slice a1 n.length c1, .slice a2 n2 c2]] w fun e w' => e = .returned (.bool (decide (n.length = n2) && n.all tg && nd n)) ∧ Below w.heap.size w w' := by
  obtain ⟨W0, hW0⟩ : ∃ W0, w.alloc (.cells #[.int .i64 6, .bool false, .int .i64 i, .string s, .slice a1 n.length c1, .slice a2 n2 c2] 25) = W0 := ⟨_, rfl⟩
  have b0 : Below w.heap.size w W0 := by rw [← hW0]; exact (Below.refl _ w).alloc (Nat.le_refl _) _
  have hx0 : W0.heap[w.heap.size]? = some (.cells #[.int .i64 6, .bool false, .int .i64 i, .string s, .slice a1 n.length c1, .slice a2 n2 c2] 25 (0, 0)) := by rw [← hW0, heap_alloc_new]
  obtain ⟨k0, k1, k2, k3, k4, k5⟩ := six_box hx0
  have c66 := good_c s hsz W0
  rw [tg_of hs] at c66
  by_cases hne : ¬ n.length = n2
  · have dne : ((n.length : Int) != (n2 : Int)) = true := by simp; omega
    have eR : (decide (n.length = n2) && n.all tg && nd n) = false := by rw [decide_eq_false hne]; rfl
    rw [eR]
    clear hn hx0 eR hne
    go_enter Tryd.func57, Tryd.ntmps57
    go_wp2_with (go_at_call 66; refine c66.mono ?_; rintro e w' ⟨rfl, hw⟩; have hw := hw.symm; subst hw)
    go_ret
    exact ⟨rfl, b0⟩
  have hne : n.length = n2 := Decidable.of_not_not hne
  subst hne
  obtain ⟨RR, hRR⟩ : ∃ RR, (decide (n.length = n.length) && n.all tg && nd n) = RR := ⟨_, rfl⟩
  rw [hRR]
  have HR : Hid ((n.all tg && nd n) = RR) := by have := hRR; rw [decide_eq_true rfl, Bool.true_and] at this; exact this
  have c67 := twice_of _ _ W0 (sorts _ _ _ W0 (Nat.le_refl _) (hn.below b0))
  obtain ⟨a, cap, e1, hlc, hcm, hlen, hts, hnil, hN⟩ := (hn.below b0).out
  cases e1
  have HN : Hid (NAt false All W0 a1 c1 n) := hN
  have HT : Hid (∀ t ∈ n, t.size ≤ 140737488351232) := hts
  clear hn hx0 hRR hts hN
  go_enter Tryd.func57, Tryd.ntmps57
  go_wp2_with (go_at_call 66; refine c66.mono ?_; rintro e w' ⟨rfl, hw⟩; have hw := hw.symm; subst hw)
  clear c66
  go_loopw [3] (fun ii wr => ∃ q : Nat, q ≤ n.length ∧ ii = .int .i64 q ∧ W0 = wr ∧ ∀ j (hj : j < n.length), j < q → tg n[j] = true) (fun ii _ => n.length - (intOf ii).toNat)
  case atStart => exact ⟨0, by omega, rfl, rfl, fun j _ h => by omega⟩
  case round =>
    obtain ⟨q, hq, rfl, rfl, hall⟩ := hrel
    have HA : Hid (∀ j (hj : j < n.length), j < q → tg n[j] = true) := hall
    clear hall
    by_cases hlt : q < n.length
    · obtain ⟨g, o, rfl, -, hcell⟩ := name_at HN.out hlt
      have c66 := good_c n[q] (HT.out _ (List.getElem_mem hlt)) W0
      have HQ : Hid (∀ x, tg n[q] = x → tg n[q] = x) := fun _ h => h
      cases hG : tg n[q] with
      | false =>
        rw [hG] at c66
        have hR2 : false = RR := by
          rw [← HR.out]
          have : n.all tg = false := by
            rw [List.all_eq_false]
            exact ⟨n[q], List.getElem_mem hlt, by rw [hG]; simp⟩
          rw [this]; rfl
        subst hR2
        clear hG HQ
        go_wp2_with (go_at_call 66; refine c66.mono ?_; rintro e w' ⟨rfl, hw⟩; have hw := hw.symm; subst hw)
        go_ret
        exact ⟨rfl, b0⟩
      | true =>
        rw [hG] at c66
        have HG : Hid (tg n[q] = true) := hG
        clear hG HQ
        go_wp2_with (go_at_call 66; refine c66.mono ?_; rintro e w' ⟨rfl, hw⟩; have hw := hw.symm; subst hw)
        go_roundw
        case rel =>
          refine ⟨q + 1, by omega, by go_num, by first | rfl | trivial, fun j hj h => ?_⟩
          by_cases e : j < q
          · exact HA.out j hj e
          · obtain rfl : j = q := by omega
            exact HG.out
        case measure => simp only [intOf]; omega
    · obtain rfl : q = n.length := by omega
      have hR2 : nd n = RR := by
        rw [← HR.out]
        have : n.all tg = true := by
          rw [List.all_eq_true]
          intro x hx
          obtain ⟨j, hj, rfl⟩ := List.mem_iff_getElem.1 hx
          exact HA.out j hj hj
        rw [this, Bool.true_and]
      rw [hR2] at c67
      clear hR2
      have hlt' : decide ((n.length : Int) < (n.length : Int)) = false := by simp
      go_wp2_with (go_at_call 67; refine c67.mono ?_; rintro e w' ⟨rfl, b1⟩)
      go_ret
      exact ⟨by simp, nx b0 b1⟩
set_option maxRecDepth 20000 in
set_option maxHeartbeats 1600000 in
theorem on6_l1 (i : Int) (s : ByteArray) (hsz : s.size ≤ 140737488351232) (a1 a2 : Option Addr) (n2 c1 c2 : Nat) (w : World) (n : List ByteArray) (hi : (i != 0) = false) (hs : s.toList.isEmpty = true) (hl : decide (0 < n2) = true) (hnn : decide (0 < n.length) = false) (hn : Tx false All w (.slice a1 n.length c1) n) :
    Calls Tryd.prog 57 #[.agg #[.int .i64 6, .bool false, .int .i64 i, .string s, .slice a1 n.length c1, .slice a2 n2 c2]] w fun e w' => e = .returned (.bool (decide (n.length = n2) && n.all tg && nd n)) ∧ Below w.heap.size w w' := by
  obtain ⟨W0, hW0⟩ : ∃ W0, w.alloc (.cells #[.int .i64 6, .bool false, .int .i64 i, .string s, .slice a1 n.length c1, .slice a2 n2 c2] 25) = W0 := ⟨_, rfl⟩
  have b0 : Below w.heap.size w W0 := by rw [← hW0]; exact (Below.refl _ w).alloc (Nat.le_refl _) _
  have hx0 : W0.heap[w.heap.size]? = some (.cells #[.int .i64 6, .bool false, .int .i64 i, .string s, .slice a1 n.length c1, .slice a2 n2 c2] 25 (0, 0)) := by rw [← hW0, heap_alloc_new]
  obtain ⟨k0, k1, k2, k3, k4, k5⟩ := six_box hx0
  have c66 := good_c s hsz W0
  rw [tg_of hs] at c66
  by_cases hne : ¬ n.length = n2
  · have dne : ((n.length : Int) != (n2 : Int)) = true := by simp; omega
    have eR : (decide (n.length = n2) && n.all tg && nd n) = false := by rw [decide_eq_false hne]; rfl
    rw [eR]
    clear hn hx0 eR hne
    go_enter Tryd.func57, Tryd.ntmps57
    go_wp2_with (go_at_call 66; refine c66.mono ?_; rintro e w' ⟨rfl, hw⟩; have hw := hw.symm; subst hw)
    go_ret
    exact ⟨rfl, b0⟩
  have hne : n.length = n2 := Decidable.of_not_not hne
  subst hne
  obtain ⟨RR, hRR⟩ : ∃ RR, (decide (n.length = n.length) && n.all tg && nd n) = RR := ⟨_, rfl⟩
  rw [hRR]
  have HR : Hid ((n.all tg && nd n) = RR) := by have := hRR; rw [decide_eq_true rfl, Bool.true_and] at this; exact this
  have c67 := twice_of _ _ W0 (sorts _ _ _ W0 (Nat.le_refl _) (hn.below b0))
  obtain ⟨a, cap, e1, hlc, hcm, hlen, hts, hnil, hN⟩ := (hn.below b0).out
  cases e1
  have HN : Hid (NAt false All W0 a1 c1 n) := hN
  have HT : Hid (∀ t ∈ n, t.size ≤ 140737488351232) := hts
  clear hn hx0 hRR hts hN
  go_enter Tryd.func57, Tryd.ntmps57
  go_wp2_with (go_at_call 66; refine c66.mono ?_; rintro e w' ⟨rfl, hw⟩; have hw := hw.symm; subst hw)
  clear c66
  go_loopw [3] (fun ii wr => ∃ q : Nat, q ≤ n.length ∧ ii = .int .i64 q ∧ W0 = wr ∧ ∀ j (hj : j < n.length), j < q → tg n[j] = true) (fun ii _ => n.length - (intOf ii).toNat)
  case atStart => exact ⟨0, by omega, rfl, rfl, fun j _ h => by omega⟩
  case round =>
    obtain ⟨q, hq, rfl, rfl, hall⟩ := hrel
    have HA : Hid (∀ j (hj : j < n.length), j < q → tg n[j] = true) := hall
    clear hall
    by_cases hlt : q < n.length
    · obtain ⟨g, o, rfl, -, hcell⟩ := name_at HN.out hlt
      have c66 := good_c n[q] (HT.out _ (List.getElem_mem hlt)) W0
      have HQ : Hid (∀ x, tg n[q] = x → tg n[q] = x) := fun _ h => h
      cases hG : tg n[q] with
      | false =>
        rw [hG] at c66
        have hR2 : false = RR := by
          rw [← HR.out]
          have : n.all tg = false := by
            rw [List.all_eq_false]
            exact ⟨n[q], List.getElem_mem hlt, by rw [hG]; simp⟩
          rw [this]; rfl
        subst hR2
        clear hG HQ
        go_wp2_with (go_at_call 66; refine c66.mono ?_; rintro e w' ⟨rfl, hw⟩; have hw := hw.symm; subst hw)
        go_ret
        exact ⟨rfl, b0⟩
      | true =>
        rw [hG] at c66
        have HG : Hid (tg n[q] = true) := hG
        clear hG HQ
        go_wp2_with (go_at_call 66; refine c66.mono ?_; rintro e w' ⟨rfl, hw⟩; have hw := hw.symm; subst hw)
        go_roundw
        case rel =>
          refine ⟨q + 1, by omega, by go_num, by first | rfl | trivial, fun j hj h => ?_⟩
          by_cases e : j < q
          · exact HA.out j hj e
          · obtain rfl : j = q := by omega
            exact HG.out
        case measure => simp only [intOf]; omega
    · obtain rfl : q = n.length := by omega
      have hR2 : nd n = RR := by
        rw [← HR.out]
        have : n.all tg = true := by
          rw [List.all_eq_true]
          intro x hx
          obtain ⟨j, hj, rfl⟩ := List.mem_iff_getElem.1 hx
          exact HA.out j hj hj
        rw [this, Bool.true_and]
      rw [hR2] at c67
      clear hR2
      have hlt' : decide ((n.length : Int) < (n.length : Int)) = false := by simp
      go_wp2_with (go_at_call 67; refine c67.mono ?_; rintro e w' ⟨rfl, b1⟩)
      go_ret
      exact ⟨by simp, nx b0 b1⟩
set_option maxRecDepth 20000 in
set_option maxHeartbeats 1600000 in
theorem on6_l1n1 (i : Int) (s : ByteArray) (hsz : s.size ≤ 140737488351232) (a1 a2 : Option Addr) (n2 c1 c2 : Nat) (w : World) (n : List ByteArray) (hi : (i != 0) = false) (hs : s.toList.isEmpty = true) (hl : decide (0 < n2) = true) (hnn : decide (0 < n.length) = true) (hn : Tx false All w (.slice a1 n.length c1) n) :
    Calls Tryd.prog 57 #[.agg #[.int .i64 6, .bool false, .int .i64 i, .string s, .slice a1 n.length c1, .slice a2 n2 c2]] w fun e w' => e = .returned (.bool (decide (n.length = n2) && n.all tg && nd n)) ∧ Below w.heap.size w w' := by
  obtain ⟨W0, hW0⟩ : ∃ W0, w.alloc (.cells #[.int .i64 6, .bool false, .int .i64 i, .string s, .slice a1 n.length c1, .slice a2 n2 c2] 25) = W0 := ⟨_, rfl⟩
  have b0 : Below w.heap.size w W0 := by rw [← hW0]; exact (Below.refl _ w).alloc (Nat.le_refl _) _
  have hx0 : W0.heap[w.heap.size]? = some (.cells #[.int .i64 6, .bool false, .int .i64 i, .string s, .slice a1 n.length c1, .slice a2 n2 c2] 25 (0, 0)) := by rw [← hW0, heap_alloc_new]
  obtain ⟨k0, k1, k2, k3, k4, k5⟩ := six_box hx0
  have c66 := good_c s hsz W0
  rw [tg_of hs] at c66
  by_cases hne : ¬ n.length = n2
  · have dne : ((n.length : Int) != (n2 : Int)) = true := by simp; omega
    have eR : (decide (n.length = n2) && n.all tg && nd n) = false := by rw [decide_eq_false hne]; rfl
    rw [eR]
    clear hn hx0 eR hne
    go_enter Tryd.func57, Tryd.ntmps57
    go_wp2_with (go_at_call 66; refine c66.mono ?_; rintro e w' ⟨rfl, hw⟩; have hw := hw.symm; subst hw)
    go_ret
    exact ⟨rfl, b0⟩
  have hne : n.length = n2 := Decidable.of_not_not hne
  subst hne
  obtain ⟨RR, hRR⟩ : ∃ RR, (decide (n.length = n.length) && n.all tg && nd n) = RR := ⟨_, rfl⟩
  rw [hRR]
  have HR : Hid ((n.all tg && nd n) = RR) := by have := hRR; rw [decide_eq_true rfl, Bool.true_and] at this; exact this
  have c67 := twice_of _ _ W0 (sorts _ _ _ W0 (Nat.le_refl _) (hn.below b0))
  obtain ⟨a, cap, e1, hlc, hcm, hlen, hts, hnil, hN⟩ := (hn.below b0).out
  cases e1
  have HN : Hid (NAt false All W0 a1 c1 n) := hN
  have HT : Hid (∀ t ∈ n, t.size ≤ 140737488351232) := hts
  clear hn hx0 hRR hts hN
  go_enter Tryd.func57, Tryd.ntmps57
  go_wp2_with (go_at_call 66; refine c66.mono ?_; rintro e w' ⟨rfl, hw⟩; have hw := hw.symm; subst hw)
  clear c66
  go_loopw [3] (fun ii wr => ∃ q : Nat, q ≤ n.length ∧ ii = .int .i64 q ∧ W0 = wr ∧ ∀ j (hj : j < n.length), j < q → tg n[j] = true) (fun ii _ => n.length - (intOf ii).toNat)
  case atStart => exact ⟨0, by omega, rfl, rfl, fun j _ h => by omega⟩
  case round =>
    obtain ⟨q, hq, rfl, rfl, hall⟩ := hrel
    have HA : Hid (∀ j (hj : j < n.length), j < q → tg n[j] = true) := hall
    clear hall
    by_cases hlt : q < n.length
    · obtain ⟨g, o, rfl, -, hcell⟩ := name_at HN.out hlt
      have c66 := good_c n[q] (HT.out _ (List.getElem_mem hlt)) W0
      have HQ : Hid (∀ x, tg n[q] = x → tg n[q] = x) := fun _ h => h
      cases hG : tg n[q] with
      | false =>
        rw [hG] at c66
        have hR2 : false = RR := by
          rw [← HR.out]
          have : n.all tg = false := by
            rw [List.all_eq_false]
            exact ⟨n[q], List.getElem_mem hlt, by rw [hG]; simp⟩
          rw [this]; rfl
        subst hR2
        clear hG HQ
        go_wp2_with (go_at_call 66; refine c66.mono ?_; rintro e w' ⟨rfl, hw⟩; have hw := hw.symm; subst hw)
        go_ret
        exact ⟨rfl, b0⟩
      | true =>
        rw [hG] at c66
        have HG : Hid (tg n[q] = true) := hG
        clear hG HQ
        go_wp2_with (go_at_call 66; refine c66.mono ?_; rintro e w' ⟨rfl, hw⟩; have hw := hw.symm; subst hw)
        go_roundw
        case rel =>
          refine ⟨q + 1, by omega, by go_num, by first | rfl | trivial, fun j hj h => ?_⟩
          by_cases e : j < q
          · exact HA.out j hj e
          · obtain rfl : j = q := by omega
            exact HG.out
        case measure => simp only [intOf]; omega
    · obtain rfl : q = n.length := by omega
      have hR2 : nd n = RR := by
        rw [← HR.out]
        have : n.all tg = true := by
          rw [List.all_eq_true]
          intro x hx
          obtain ⟨j, hj, rfl⟩ := List.mem_iff_getElem.1 hx
          exact HA.out j hj hj
        rw [this, Bool.true_and]
      rw [hR2] at c67
      clear hR2
      have hlt' : decide ((n.length : Int) < (n.length : Int)) = false := by simp
      go_wp2_with (go_at_call 67; refine c67.mono ?_; rintro e w' ⟨rfl, b1⟩)
      go_ret
      exact ⟨by simp, nx b0 b1⟩
theorem pu_eq (k : Int) (b : Bool) (i : Int) (s : ByteArray) (n1 n2 : Nat) : pu k b i s n1 n2 = ((decide (k = 2) || !b) && (decide (k = 3) || !(i != 0)) && (decide (k = 4) || s.toList.isEmpty) && (decide (k = 5 ∨ k = 6) || !decide (0 < n2)) && (decide (k = 6) || !decide (0 < n1))) := by
  have e1 : decide (i = 0) = !(i != 0) := by by_cases h : i = 0 <;> simp [h]
  have e2 : ∀ n : Nat, decide (n = 0) = !decide (0 < n) := fun n => by by_cases h : n = 0 <;> simp [h]; omega
  unfold pu
  rw [e1, e2, e2]
theorem ne_dec (n : Nat) : (decide (0 < n) = false) ↔ n = 0 := by simp
theorem alone_c : AloneIs := by
  intro m v c w h hk1 hk6
  obtain ⟨m', nv, lv, hm, rfl, -, -, hsz, hn, hl⟩ := h.shape
  obtain ⟨a2, c2, rfl, -⟩ := hl.out
  have hn' := hn
  obtain ⟨a1, c1, rfl, -⟩ := hn.out
  obtain ⟨k, b, i, s, n, l⟩ := c
  simp only [C.k, C.b, C.i, C.s, C.n, C.l] at *
  have hfm : fm (.mk k b i s n l) = (pu k b i s n.length l.length && tg s && (!decide (k = 6) || (decide (n.length = l.length) && n.all tg && nd n))) := rfl
  rw [hfm]
  clear hfm h hl
  rcases (show k = 1 ∨ k = 2 ∨ k = 3 ∨ k = 4 ∨ k = 5 ∨ k = 6 by omega) with rfl | rfl | rfl | rfl | rfl | rfl
  · clear hk1 hk6 hn
    cases b with
    | false =>
      cases hi : (i != 0) with
      | false =>
        cases hs : s.toList.isEmpty with
        | false =>
          have e : pu 1 false i s n.length l.length = false := by rw [pu_eq, hi, hs]; simp
          rw [e, Bool.false_and, Bool.false_and]
          exact out1_b0i0s1 i s a1 a2 n.length l.length c1 c2 w hi hs
        | true =>
          cases hl : decide (0 < l.length) with
          | false =>
            cases hn : decide (0 < n.length) with
            | false =>
              have e : pu 1 false i s n.length l.length = true := by rw [pu_eq, hi, hs, hl, hn]; simp
              obtain rfl : n = [] := List.eq_nil_of_length_eq_zero ((ne_dec _).1 hn)
              have e2 : (pu 1 false i s ([] : List ByteArray).length l.length && tg s && (!decide ((1 : Int) = 6) || (decide (([] : List ByteArray).length = l.length) && ([] : List ByteArray).all tg && nd []))) = tg s := by rw [e]; simp
              rw [e2]
              exact on1_ i s hsz a1 a2 l.length c1 c2 w hi hs hl hn'
            | true =>
              have e : pu 1 false i s n.length l.length = false := by rw [pu_eq, hi, hs, hl, hn]; simp
              rw [e, Bool.false_and, Bool.false_and]
              exact out1_b0i0s0l0n1 i s a1 a2 n.length l.length c1 c2 w hi hs hl hn
          | true =>
            have e : pu 1 false i s n.length l.length = false := by rw [pu_eq, hi, hs, hl]; simp
            rw [e, Bool.false_and, Bool.false_and]
            exact out1_b0i0s0l1 i s a1 a2 n.length l.length c1 c2 w hi hs hl
      | true =>
        have e : pu 1 false i s n.length l.length = false := by rw [pu_eq, hi]; simp
        rw [e, Bool.false_and, Bool.false_and]
        exact out1_b0i1 i s a1 a2 n.length l.length c1 c2 w hi
    | true =>
      have e : pu 1 true i s n.length l.length = false := by rw [pu_eq]; simp
      rw [e, Bool.false_and, Bool.false_and]
      exact out1_b1 i s a1 a2 n.length l.length c1 c2 w 
  · clear hk1 hk6 hn
    cases b with
    | false =>
      cases hi : (i != 0) with
      | false =>
        cases hs : s.toList.isEmpty with
        | false =>
          have e : pu 2 false i s n.length l.length = false := by rw [pu_eq, hi, hs]; simp
          rw [e, Bool.false_and, Bool.false_and]
          exact out2_b0i0s1 i s a1 a2 n.length l.length c1 c2 w hi hs
        | true =>
          cases hl : decide (0 < l.length) with
          | false =>
            cases hn : decide (0 < n.length) with
            | false =>
              have e : pu 2 false i s n.length l.length = true := by rw [pu_eq, hi, hs, hl, hn]; simp
              obtain rfl : n = [] := List.eq_nil_of_length_eq_zero ((ne_dec _).1 hn)
              have e2 : (pu 2 false i s ([] : List ByteArray).length l.length && tg s && (!decide ((2 : Int) = 6) || (decide (([] : List ByteArray).length = l.length) && ([] : List ByteArray).all tg && nd []))) = tg s := by rw [e]; simp
              rw [e2]
              exact on2_ i s hsz a1 a2 l.length c1 c2 w hi hs hl hn'
            | true =>
              have e : pu 2 false i s n.length l.length = false := by rw [pu_eq, hi, hs, hl, hn]; simp
              rw [e, Bool.false_and, Bool.false_and]
              exact out2_b0i0s0l0n1 i s a1 a2 n.length l.length c1 c2 w hi hs hl hn
          | true =>
            have e : pu 2 false i s n.length l.length = false := by rw [pu_eq, hi, hs, hl]; simp
            rw [e, Bool.false_and, Bool.false_and]
            exact out2_b0i0s0l1 i s a1 a2 n.length l.length c1 c2 w hi hs hl
      | true =>
        have e : pu 2 false i s n.length l.length = false := by rw [pu_eq, hi]; simp
        rw [e, Bool.false_and, Bool.false_and]
        exact out2_b0i1 i s a1 a2 n.length l.length c1 c2 w hi
    | true =>
      cases hi : (i != 0) with
      | false =>
        cases hs : s.toList.isEmpty with
        | false =>
          have e : pu 2 true i s n.length l.length = false := by rw [pu_eq, hi, hs]; simp
          rw [e, Bool.false_and, Bool.false_and]
          exact out2_b1i0s1 i s a1 a2 n.length l.length c1 c2 w hi hs
        | true =>
          cases hl : decide (0 < l.length) with
          | false =>
            cases hn : decide (0 < n.length) with
            | false =>
              have e : pu 2 true i s n.length l.length = true := by rw [pu_eq, hi, hs, hl, hn]; simp
              obtain rfl : n = [] := List.eq_nil_of_length_eq_zero ((ne_dec _).1 hn)
              have e2 : (pu 2 true i s ([] : List ByteArray).length l.length && tg s && (!decide ((2 : Int) = 6) || (decide (([] : List ByteArray).length = l.length) && ([] : List ByteArray).all tg && nd []))) = tg s := by rw [e]; simp
              rw [e2]
              exact on2_b1 i s hsz a1 a2 l.length c1 c2 w hi hs hl hn'
            | true =>
              have e : pu 2 true i s n.length l.length = false := by rw [pu_eq, hi, hs, hl, hn]; simp
              rw [e, Bool.false_and, Bool.false_and]
              exact out2_b1i0s0l0n1 i s a1 a2 n.length l.length c1 c2 w hi hs hl hn
          | true =>
            have e : pu 2 true i s n.length l.length = false := by rw [pu_eq, hi, hs, hl]; simp
            rw [e, Bool.false_and, Bool.false_and]
            exact out2_b1i0s0l1 i s a1 a2 n.length l.length c1 c2 w hi hs hl
      | true =>
        have e : pu 2 true i s n.length l.length = false := by rw [pu_eq, hi]; simp
        rw [e, Bool.false_and, Bool.false_and]
        exact out2_b1i1 i s a1 a2 n.length l.length c1 c2 w hi
  · clear hk1 hk6 hn
    cases b with
    | false =>
      cases hi : (i != 0) with
      | false =>
        cases hs : s.toList.isEmpty with
        | false =>
          have e : pu 3 false i s n.length l.length = false := by rw [pu_eq, hi, hs]; simp
          rw [e, Bool.false_and, Bool.false_and]
          exact out3_b0i0s1 i s a1 a2 n.length l.length c1 c2 w hi hs
        | true =>
          cases hl : decide (0 < l.length) with
          | false =>
            cases hn : decide (0 < n.length) with
            | false =>
              have e : pu 3 false i s n.length l.length = true := by rw [pu_eq, hi, hs, hl, hn]; simp
              obtain rfl : n = [] := List.eq_nil_of_length_eq_zero ((ne_dec _).1 hn)
              have e2 : (pu 3 false i s ([] : List ByteArray).length l.length && tg s && (!decide ((3 : Int) = 6) || (decide (([] : List ByteArray).length = l.length) && ([] : List ByteArray).all tg && nd []))) = tg s := by rw [e]; simp
              rw [e2]
              exact on3_ i s hsz a1 a2 l.length c1 c2 w hi hs hl hn'
            | true =>
              have e : pu 3 false i s n.length l.length = false := by rw [pu_eq, hi, hs, hl, hn]; simp
              rw [e, Bool.false_and, Bool.false_and]
              exact out3_b0i0s0l0n1 i s a1 a2 n.length l.length c1 c2 w hi hs hl hn
          | true =>
            have e : pu 3 false i s n.length l.length = false := by rw [pu_eq, hi, hs, hl]; simp
            rw [e, Bool.false_and, Bool.false_and]
            exact out3_b0i0s0l1 i s a1 a2 n.length l.length c1 c2 w hi hs hl
      | true =>
        cases hs : s.toList.isEmpty with
        | false =>
          have e : pu 3 false i s n.length l.length = false := by rw [pu_eq, hi, hs]; simp
          rw [e, Bool.false_and, Bool.false_and]
          exact out3_b0i1s1 i s a1 a2 n.length l.length c1 c2 w hi hs
        | true =>
          cases hl : decide (0 < l.length) with
          | false =>
            cases hn : decide (0 < n.length) with
            | false =>
              have e : pu 3 false i s n.length l.length = true := by rw [pu_eq, hi, hs, hl, hn]; simp
              obtain rfl : n = [] := List.eq_nil_of_length_eq_zero ((ne_dec _).1 hn)
              have e2 : (pu 3 false i s ([] : List ByteArray).length l.length && tg s && (!decide ((3 : Int) = 6) || (decide (([] : List ByteArray).length = l.length) && ([] : List ByteArray).all tg && nd []))) = tg s := by rw [e]; simp
              rw [e2]
              exact on3_i1 i s hsz a1 a2 l.length c1 c2 w hi hs hl hn'
            | true =>
              have e : pu 3 false i s n.length l.length = false := by rw [pu_eq, hi, hs, hl, hn]; simp
              rw [e, Bool.false_and, Bool.false_and]
              exact out3_b0i1s0l0n1 i s a1 a2 n.length l.length c1 c2 w hi hs hl hn
          | true =>
            have e : pu 3 false i s n.length l.length = false := by rw [pu_eq, hi, hs, hl]; simp
            rw [e, Bool.false_and, Bool.false_and]
            exact out3_b0i1s0l1 i s a1 a2 n.length l.length c1 c2 w hi hs hl
    | true =>
      have e : pu 3 true i s n.length l.length = false := by rw [pu_eq]; simp
      rw [e, Bool.false_and, Bool.false_and]
      exact out3_b1 i s a1 a2 n.length l.length c1 c2 w 
  · clear hk1 hk6 hn
    cases b with
    | false =>
      cases hi : (i != 0) with
      | false =>
        cases hs : s.toList.isEmpty with
        | false =>
          cases hl : decide (0 < l.length) with
          | false =>
            cases hn : decide (0 < n.length) with
            | false =>
              have e : pu 4 false i s n.length l.length = true := by rw [pu_eq, hi, hs, hl, hn]; simp
              obtain rfl : n = [] := List.eq_nil_of_length_eq_zero ((ne_dec _).1 hn)
              have e2 : (pu 4 false i s ([] : List ByteArray).length l.length && tg s && (!decide ((4 : Int) = 6) || (decide (([] : List ByteArray).length = l.length) && ([] : List ByteArray).all tg && nd []))) = tg s := by rw [e]; simp
              rw [e2]
              exact on4_s1 i s hsz a1 a2 l.length c1 c2 w hi hs hl hn'
            | true =>
              have e : pu 4 false i s n.length l.length = false := by rw [pu_eq, hi, hs, hl, hn]; simp
              rw [e, Bool.false_and, Bool.false_and]
              exact out4_b0i0s1l0n1 i s a1 a2 n.length l.length c1 c2 w hi hs hl hn
          | true =>
            have e : pu 4 false i s n.length l.length = false := by rw [pu_eq, hi, hs, hl]; simp
            rw [e, Bool.false_and, Bool.false_and]
            exact out4_b0i0s1l1 i s a1 a2 n.length l.length c1 c2 w hi hs hl
        | true =>
          cases hl : decide (0 < l.length) with
          | false =>
            cases hn : decide (0 < n.length) with
            | false =>
              have e : pu 4 false i s n.length l.length = true := by rw [pu_eq, hi, hs, hl, hn]; simp
              obtain rfl : n = [] := List.eq_nil_of_length_eq_zero ((ne_dec _).1 hn)
              have e2 : (pu 4 false i s ([] : List ByteArray).length l.length && tg s && (!decide ((4 : Int) = 6) || (decide (([] : List ByteArray).length = l.length) && ([] : List ByteArray).all tg && nd []))) = tg s := by rw [e]; simp
              rw [e2]
              exact on4_ i s hsz a1 a2 l.length c1 c2 w hi hs hl hn'
            | true =>
              have e : pu 4 false i s n.length l.length = false := by rw [pu_eq, hi, hs, hl, hn]; simp
              rw [e, Bool.false_and, Bool.false_and]
              exact out4_b0i0s0l0n1 i s a1 a2 n.length l.length c1 c2 w hi hs hl hn
          | true =>
            have e : pu 4 false i s n.length l.length = false := by rw [pu_eq, hi, hs, hl]; simp
            rw [e, Bool.false_and, Bool.false_and]
            exact out4_b0i0s0l1 i s a1 a2 n.length l.length c1 c2 w hi hs hl
      | true =>
        have e : pu 4 false i s n.length l.length = false := by rw [pu_eq, hi]; simp
        rw [e, Bool.false_and, Bool.false_and]
        exact out4_b0i1 i s a1 a2 n.length l.length c1 c2 w hi
    | true =>
      have e : pu 4 true i s n.length l.length = false := by rw [pu_eq]; simp
      rw [e, Bool.false_and, Bool.false_and]
      exact out4_b1 i s a1 a2 n.length l.length c1 c2 w 
  · clear hk1 hk6 hn
    cases b with
    | false =>
      cases hi : (i != 0) with
      | false =>
        cases hs : s.toList.isEmpty with
        | false =>
          have e : pu 5 false i s n.length l.length = false := by rw [pu_eq, hi, hs]; simp
          rw [e, Bool.false_and, Bool.false_and]
          exact out5_b0i0s1 i s a1 a2 n.length l.length c1 c2 w hi hs
        | true =>
          cases hl : decide (0 < l.length) with
          | false =>
            cases hn : decide (0 < n.length) with
            | false =>
              have e : pu 5 false i s n.length l.length = true := by rw [pu_eq, hi, hs, hl, hn]; simp
              obtain rfl : n = [] := List.eq_nil_of_length_eq_zero ((ne_dec _).1 hn)
              have e2 : (pu 5 false i s ([] : List ByteArray).length l.length && tg s && (!decide ((5 : Int) = 6) || (decide (([] : List ByteArray).length = l.length) && ([] : List ByteArray).all tg && nd []))) = tg s := by rw [e]; simp
              rw [e2]
              exact on5_ i s hsz a1 a2 l.length c1 c2 w hi hs hl hn'
            | true =>
              have e : pu 5 false i s n.length l.length = false := by rw [pu_eq, hi, hs, hl, hn]; simp
              rw [e, Bool.false_and, Bool.false_and]
              exact out5_b0i0s0l0n1 i s a1 a2 n.length l.length c1 c2 w hi hs hl hn
          | true =>
            cases hn : decide (0 < n.length) with
            | false =>
              have e : pu 5 false i s n.length l.length = true := by rw [pu_eq, hi, hs, hl, hn]; simp
              obtain rfl : n = [] := List.eq_nil_of_length_eq_zero ((ne_dec _).1 hn)
              have e2 : (pu 5 false i s ([] : List ByteArray).length l.length && tg s && (!decide ((5 : Int) = 6) || (decide (([] : List ByteArray).length = l.length) && ([] : List ByteArray).all tg && nd []))) = tg s := by rw [e]; simp
              rw [e2]
              exact on5_l1 i s hsz a1 a2 l.length c1 c2 w hi hs hl hn'
            | true =>
              have e : pu 5 false i s n.length l.length = false := by rw [pu_eq, hi, hs, hl, hn]; simp
              rw [e, Bool.false_and, Bool.false_and]
              exact out5_b0i0s0l1n1 i s a1 a2 n.length l.length c1 c2 w hi hs hl hn
      | true =>
        have e : pu 5 false i s n.length l.length = false := by rw [pu_eq, hi]; simp
        rw [e, Bool.false_and, Bool.false_and]
        exact out5_b0i1 i s a1 a2 n.length l.length c1 c2 w hi
    | true =>
      have e : pu 5 true i s n.length l.length = false := by rw [pu_eq]; simp
      rw [e, Bool.false_and, Bool.false_and]
      exact out5_b1 i s a1 a2 n.length l.length c1 c2 w 
  · clear hk1 hk6 hn
    cases b with
    | false =>
      cases hi : (i != 0) with
      | false =>
        cases hs : s.toList.isEmpty with
        | false =>
          have e : pu 6 false i s n.length l.length = false := by rw [pu_eq, hi, hs]; simp
          rw [e, Bool.false_and, Bool.false_and]
          exact out6_b0i0s1 i s a1 a2 n.length l.length c1 c2 w hi hs
        | true =>
          cases hl : decide (0 < l.length) with
          | false =>
            cases hn : decide (0 < n.length) with
            | false =>
              have e : pu 6 false i s n.length l.length = true := by rw [pu_eq, hi, hs, hl, hn]; simp
              have e2 : (pu 6 false i s n.length l.length && tg s && (!decide ((6 : Int) = 6) || (decide (n.length = l.length) && n.all tg && nd n))) = (decide (n.length = l.length) && n.all tg && nd n) := by rw [e, tg_of hs]; simp
              rw [e2]
              exact on6_ i s hsz a1 a2 l.length c1 c2 w n hi hs hl hn hn'
            | true =>
              have e : pu 6 false i s n.length l.length = true := by rw [pu_eq, hi, hs, hl, hn]; simp
              have e2 : (pu 6 false i s n.length l.length && tg s && (!decide ((6 : Int) = 6) || (decide (n.length = l.length) && n.all tg && nd n))) = (decide (n.length = l.length) && n.all tg && nd n) := by rw [e, tg_of hs]; simp
              rw [e2]
              exact on6_n1 i s hsz a1 a2 l.length c1 c2 w n hi hs hl hn hn'
          | true =>
            cases hn : decide (0 < n.length) with
            | false =>
              have e : pu 6 false i s n.length l.length = true := by rw [pu_eq, hi, hs, hl, hn]; simp
              have e2 : (pu 6 false i s n.length l.length && tg s && (!decide ((6 : Int) = 6) || (decide (n.length = l.length) && n.all tg && nd n))) = (decide (n.length = l.length) && n.all tg && nd n) := by rw [e, tg_of hs]; simp
              rw [e2]
              exact on6_l1 i s hsz a1 a2 l.length c1 c2 w n hi hs hl hn hn'
            | true =>
              have e : pu 6 false i s n.length l.length = true := by rw [pu_eq, hi, hs, hl, hn]; simp
              have e2 : (pu 6 false i s n.length l.length && tg s && (!decide ((6 : Int) = 6) || (decide (n.length = l.length) && n.all tg && nd n))) = (decide (n.length = l.length) && n.all tg && nd n) := by rw [e, tg_of hs]; simp
              rw [e2]
              exact on6_l1n1 i s hsz a1 a2 l.length c1 c2 w n hi hs hl hn hn'
      | true =>
        have e : pu 6 false i s n.length l.length = false := by rw [pu_eq, hi]; simp
        rw [e, Bool.false_and, Bool.false_and]
        exact out6_b0i1 i s a1 a2 n.length l.length c1 c2 w hi
    | true =>
      have e : pu 6 true i s n.length l.length = false := by rw [pu_eq]; simp
      rw [e, Bool.false_and, Bool.false_and]
      exact out6_b1 i s a1 a2 n.length l.length c1 c2 w 
end Go.Proofs.YtmoblfdepcjgfaaDoor.Alone

import Derived.BigQuiet
import Derived.Deep.RegionWith
import Derived.Test.YthjbknncbhkinaaGreatDoorPS03
import Derived.Test.YthjbknncbhkinaaGreatDoorPS21
open Go.Proofs.Tryz
set_option linter.unusedVariables false
set_option maxRecDepth 20000
set_option maxHeartbeats 3200000
namespace Go.Proofs.YthjbknncbhkinaaGreatDoor.SFit
open Go.RowKit Base UBase
open XBase (four_box frozen_box Rg)
def kd (o : Int) : Int := if 1 <= o /\ o <= 6 then 0 else if o = 7 \/ o = 9 \/ o = 10 \/ o = 11 then 1 else if o = 8 \/ (12 <= o /\ o <= 30) then 2 else if o = 31 then 3 else -1
theorem ret_int {k : IntKind} {a b : Int} (h : a = b) : Ending.returned (.int k a) = .returned (.int k b) := by rw [h]
theorem kidsOf_c (o : Int) (h1 : -9223372036854775808 <= o) (h2 : o <= 9223372036854775807) (w : World) : Calls prog 92 #[.int .i64 o] w fun e w' => e = .returned (.int .i64 (kd o)) /\ w' = w := by
 go_enter func92, ntmps92
 go_wp2_with fail
 all_goals
  go_ret
  refine ⟨ret_int ?_, rfl⟩
  unfold kd
  simp_all
  try omega
theorem ne : ∀ s : ByteArray, s.toList.isEmpty = (s.size == 0) := by
 intro s
 rw [ByteArray.toList_eq]
 cases h : s.data.toList with
 | nil =>
  have : s.size = 0 := by rw [<- ByteArray.size_data, <- Array.length_toList, h]; rfl
  simp [this]
 | cons a r =>
  have : s.size = r.length + 1 := by rw [<- ByteArray.size_data, <- Array.length_toList, h]; rfl
  simp [this]
def ft (lf : Int -> Int -> ByteArray -> Bool) (o i : Int) (t : ByteArray) : Bool :=
 if o = 5 \/ o = 6 then lf o i t
 else if o = 4 then decide (0 <= i) && (t.size == 0)
 else if o = 7 then (i == 0) && UBase.word t 95
 else if o = 9 then (decide (1 <= i) && decide (i <= 8)) && (t.size == 0)
 else (i == 0) && (t.size == 0)
abbrev lfv (k : Nat) : Value := .func (Fn.func k) #[] #[]
def Lf (k : Nat) (lf : Int -> Int -> ByteArray -> Bool) : Prop := (∀ (args : Array Value) (w : World), Sem.run prog (callFunc k args) w = .ok (.enter k args) w) /\ ∀ (o i : Int) (t : ByteArray) (a : Option Addr) (n c : Nat) (w : World), (o = 5 \/ o = 6) -> t.size <= 140737488351232 ->
 Calls prog k #[.agg #[.int .i64 o, .int .i64 i, .string t, .slice a n c]] w fun e w' => e = .returned (.bool (lf o i t)) /\ Below w.heap.size w w'
theorem ret_bool {a b : Bool} (h : a = b) : Ending.returned (.bool a) = .returned (.bool b) := by rw [h]
theorem fits_int {k : Nat} {lf : Int -> Int -> ByteArray -> Bool} {i : Int} {t : ByteArray} {a : Option Addr} {n c : Nat} (w : World) :
  Calls prog 93 #[.agg #[.int .i64 4, .int .i64 i, .string t, .slice a n c], lfv k] w fun e w' => e = .returned (.bool (ft lf 4 i t)) /\ Below w.heap.size w w' := by
 have b0 : Below w.heap.size w (w.alloc (.cells #[.int .i64 4, .int .i64 i, .string t, .slice a n c] 24)) := (Below.refl _ w).alloc (Nat.le_refl _) _
 have hne := ne t
 have e : ft lf 4 i t = (decide (0 <= i) && (t.size == 0)) := rfl
 rw [e]
 obtain ⟨z, hz⟩ : ∃ z, (t.size == 0) = z := ⟨_, rfl⟩
 rw [hz] at hne ⊢
 clear e hz
 by_cases hi : 0 <= i
 ·have d : decide ((0 : Int) <= i) = true := decide_eq_true hi
  rw [d, Bool.true_and]
  clear hi
  go_enter func93, ntmps93
  go_wp2_with fail
  go_ret
  exact ⟨ret_bool rfl, b0⟩
 ·have d : decide ((0 : Int) <= i) = false := decide_eq_false hi
  rw [d, Bool.false_and]
  clear hi
  go_enter func93, ntmps93
  go_wp2_with fail
  go_ret
  exact ⟨rfl, b0⟩
theorem fits_else {k : Nat} {lf : Int -> Int -> ByteArray -> Bool} {o i : Int} {t : ByteArray} {a : Option Addr} {n c : Nat} (h4 : o ≠ 4) (h5 : o ≠ 5) (h6 : o ≠ 6) (h7 : o ≠ 7) (h9 : o ≠ 9) (w : World) :
  Calls prog 93 #[.agg #[.int .i64 o, .int .i64 i, .string t, .slice a n c], lfv k] w fun e w' => e = .returned (.bool (ft lf o i t)) /\ Below w.heap.size w w' := by
 have b0 : Below w.heap.size w (w.alloc (.cells #[.int .i64 o, .int .i64 i, .string t, .slice a n c] 24)) := (Below.refl _ w).alloc (Nat.le_refl _) _
 have hne := ne t
 have e : ft lf o i t = ((i == 0) && (t.size == 0)) := by unfold ft; rw [if_neg (by omega), if_neg h4, if_neg h7, if_neg h9]
 rw [e]
 have e4 : (o == 4) = false := by simp [h4]
 have e5 : (o == 5) = false := by simp [h5]
 have e6 : (o == 6) = false := by simp [h6]
 have e7 : (o == 7) = false := by simp [h7]
 have e9 : (o == 9) = false := by simp [h9]
 obtain ⟨z, hz⟩ : ∃ z, (t.size == 0) = z := ⟨_, rfl⟩
 rw [hz] at hne ⊢
 clear e hz h4 h5 h6 h7 h9
 cases hi : (i == 0) with
 | true =>
  rw [Bool.true_and]
  go_enter func93, ntmps93
  go_wp2_with fail
  go_ret
  exact ⟨ret_bool rfl, b0⟩
 | false =>
  rw [Bool.false_and]
  go_enter func93, ntmps93
  go_wp2_with fail
  go_ret
  exact ⟨rfl, b0⟩
theorem fits_field {k : Nat} {lf : Int -> Int -> ByteArray -> Bool} {i : Int} {t : ByteArray} {a : Option Addr} {n c : Nat} (ht : t.size <= 140737488351232) (w : World) :
  Calls prog 93 #[.agg #[.int .i64 7, .int .i64 i, .string t, .slice a n c], lfv k] w fun e w' => e = .returned (.bool (ft lf 7 i t)) /\ Below w.heap.size w w' := by
 have b0 : Below w.heap.size w (w.alloc (.cells #[.int .i64 7, .int .i64 i, .string t, .slice a n c] 24)) := (Below.refl _ w).alloc (Nat.le_refl _) _
 have e : ft lf 7 i t = ((i == 0) && UBase.word t 95) := rfl
 rw [e]
 have cT := fun W => SNm.Name_c t (by omega) W
 obtain ⟨z, hz⟩ : ∃ z, UBase.word t 95 = z := ⟨_, rfl⟩
 rw [hz] at cT ⊢
 clear e hz
 cases hi : (i == 0) with
 | true =>
  rw [Bool.true_and]
  go_enter func93, ntmps93
  go_wp2_with fail
  refine (cT _).mono ?_
  rintro e W1 ⟨rfl, rfl⟩
  go_wp2_with fail
  go_ret
  exact ⟨rfl, b0⟩
 | false =>
  rw [Bool.false_and]
  go_enter func93, ntmps93
  go_wp2_with fail
  go_ret
  exact ⟨rfl, b0⟩
theorem fits_call {k : Nat} {lf : Int -> Int -> ByteArray -> Bool} {i : Int} {t : ByteArray} {a : Option Addr} {n c : Nat} (w : World) :
  Calls prog 93 #[.agg #[.int .i64 9, .int .i64 i, .string t, .slice a n c], lfv k] w fun e w' => e = .returned (.bool (ft lf 9 i t)) /\ Below w.heap.size w w' := by
 have b0 : Below w.heap.size w (w.alloc (.cells #[.int .i64 9, .int .i64 i, .string t, .slice a n c] 24)) := (Below.refl _ w).alloc (Nat.le_refl _) _
 have hne := ne t
 have e : ft lf 9 i t = ((decide (1 <= i) && decide (i <= 8)) && (t.size == 0)) := rfl
 rw [e]
 obtain ⟨z, hz⟩ : ∃ z, (t.size == 0) = z := ⟨_, rfl⟩
 rw [hz] at hne ⊢
 clear e hz
 by_cases h1 : 1 <= i
 ·have d1 : decide ((1 : Int) <= i) = true := decide_eq_true h1
  rw [d1, Bool.true_and]
  by_cases h8 : i <= 8
  ·have d8 : decide (i <= (8 : Int)) = true := decide_eq_true h8
   rw [d8, Bool.true_and]
   clear h1 h8
   go_enter func93, ntmps93
   go_wp2_with fail
   go_ret
   exact ⟨ret_bool rfl, b0⟩
  ·have d8 : decide (i <= (8 : Int)) = false := decide_eq_false h8
   rw [d8, Bool.false_and]
   clear h1 h8
   go_enter func93, ntmps93
   go_wp2_with fail
   go_ret
   exact ⟨rfl, b0⟩
 ·have d1 : decide ((1 : Int) <= i) = false := decide_eq_false h1
  rw [d1, Bool.false_and, Bool.false_and]
  clear h1
  go_enter func93, ntmps93
  go_wp2_with fail
  go_ret
  exact ⟨rfl, b0⟩
theorem fits_leaf {k : Nat} {lf : Int -> Int -> ByteArray -> Bool} (hL : Lf k lf) {o i : Int} {t : ByteArray} {a : Option Addr} {n c : Nat} (h : o = 5 \/ o = 6) (ht : t.size <= 140737488351232) (w : World) :
  Calls prog 93 #[.agg #[.int .i64 o, .int .i64 i, .string t, .slice a n c], lfv k] w fun e w' => e = .returned (.bool (ft lf o i t)) /\ Below w.heap.size w w' := by
 have b0 : Below w.heap.size w (w.alloc (.cells #[.int .i64 o, .int .i64 i, .string t, .slice a n c] 24)) := (Below.refl _ w).alloc (Nat.le_refl _) _
 have e : ft lf o i t = lf o i t := by unfold ft; rw [if_pos h]
 rw [e]
 have hE := hL.1
 have cL := hL.2 o i t a n c (w.alloc (.cells #[.int .i64 o, .int .i64 i, .string t, .slice a n c] 24)) h ht
 obtain ⟨z, hz⟩ : ∃ z, lf o i t = z := ⟨_, rfl⟩
 rw [hz] at cL ⊢
 clear e hz hL
 rcases h with rfl | rfl
 ·go_enter func93, ntmps93
  go_wp2_with fail
  refine cL.mono ?_
  rintro e W1 ⟨rfl, b1⟩
  go_wp2_with fail
  go_ret
  exact ⟨rfl, nx b0 b1⟩
 ·go_enter func93, ntmps93
  go_wp2_with fail
  refine cL.mono ?_
  rintro e W1 ⟨rfl, b1⟩
  go_wp2_with fail
  go_ret
  exact ⟨rfl, nx b0 b1⟩
theorem fits_c {k : Nat} {lf : Int -> Int -> ByteArray -> Bool} (hL : Lf k lf) {o i : Int} {t : ByteArray} {a : Option Addr} {n c : Nat} (ht : t.size <= 140737488351232) (w : World) :
  Calls prog 93 #[.agg #[.int .i64 o, .int .i64 i, .string t, .slice a n c], lfv k] w fun e w' => e = .returned (.bool (ft lf o i t)) /\ Below w.heap.size w w' := by
 by_cases h4 : o = 4
 ·subst h4; exact fits_int w
 by_cases h5 : o = 5 \/ o = 6
 ·exact fits_leaf hL h5 ht w
 by_cases h7 : o = 7
 ·subst h7; exact fits_field ht w
 by_cases h9 : o = 9
 ·subst h9; exact fits_call w
 exact fits_else h4 (by omega) (by omega) h7 h9 w
end Go.Proofs.YthjbknncbhkinaaGreatDoor.SFit

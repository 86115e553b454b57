import Derived.BigQuiet
import Derived.Deep.RegionWith
import Derived.LoopTactic
import Derived.WalkSpells
import Derived.Test.YtiijfmdfccdagaaGreatDoorPA03
import Derived.Test.YtiijfmdfccdagaaGreatDoorPA05
open Go.Proofs.Tryz
set_option linter.unusedVariables false
set_option maxRecDepth 20000
set_option maxHeartbeats 3200000
namespace Go.Proofs.YtiijfmdfccdagaaGreatDoor.UValid
open Go.ChangeShapes Go.WideShapes Go.ChangeAt Go.RowKit UBase
theorem verr_none {s : ByteArray} (h : bad s 0 = none) : vat s = 0 /\ verr s = 0 := by unfold vat verr; rw [h]; simp
theorem verr_some {s : ByteArray} {i : Nat} (h : bad s 0 = some i) : vat s = i /\ verr s = 300 := by unfold vat verr; rw [h]; simp
end Go.Proofs.YtiijfmdfccdagaaGreatDoor.UValid
namespace Go.Proofs.YtiijfmdfccdagaaGreatDoor.UOwn
open Go.ChangeShapes Go.WideShapes Go.ChangeAt Go.RowKit UBase USmall UValid
theorem at_extract (s : ByteArray) (i n k : Nat) (hn : n <= s.size) (hk : i + k < n) : at' (s.extract i n) k = at' s (i + k) := by
 rw [at_list, at_list, ByteArray.data_extract, Array.toList_extract, List.extract_eq_take_drop, List.getElem?_take, List.getElem?_drop, if_pos (by omega)]
theorem at_behind (s : ByteArray) (i k : Nat) : at' (s.extract i s.size) k = at' s (i + k) := by
 by_cases h : i + k < s.size
 ·exact at_extract s i s.size k (Nat.le_refl _) h
 ·rw [at_out s _ h, at_out _ k (by simp; omega)]
theorem rep_behind (s : ByteArray) (i : Nat) : rep (s.extract i s.size) 0 = rep s i := by
 unfold rep
 rw [at_behind, at_behind, at_behind]
 rfl
theorem valid_c (s : ByteArray) (hs : s.size <= 9223372036854775807) (w : World) :
  Calls prog 87 #[.string s] w fun r w' => r = .returned (.tuple #[.int .i64 (vat s), .int .i64 (verr s)]) /\ ∃ p, w' = w.iter s p := by
 go_enter func87, ntmps87
 go_wp2
 go_loopw [] (fun wr => ∃ n : Nat, n <= s.size /\ wr = w.iter s n /\ bad s 0 = bad s n) (fun wr => s.size - wr.iterPos w.heap.size)
 case atStart => exact ⟨0, by omega, rfl, rfl⟩
 case round =>
  obtain ⟨n, hn, rfl, hb⟩ := hrel
  have HB : Hid (bad s 0 = bad s n) := hb
  clear hb
  by_cases hlt : n < s.size
  ·have hnx : ∀ ty, (Instr.next (.pointer (some ⟨w.heap.size, 0, none⟩)) true ty).run prog (w.iter s n) = _ := fun ty => run_next_any w s n ty hlt
   have hd := dec_len s n
   obtain ⟨hd1, hd2, _⟩ := hd
   have hi := len_in hlt
   have cp : ∀ w, Calls prog 117 #[.string (s.extract n s.size)] w fun r w' => r = .returned (.bool (rep s n)) /\ w' = w := fun w => by
    rw [<- rep_behind]
    exact pre_c _ (by simp; omega) w
   by_cases hz : len s n = 0
   ·obtain ⟨e1, e2⟩ := hd1.mp hz
    go_wp2_with (first | (go_at_call 117; refine (cp _).mono ?_; rintro e w' ⟨rfl, rfl⟩))
    go_ret2
    have e := verr_some (HB.out.trans (bad_here hlt hz))
    rw [e.1, e.2]
    exact ⟨rfl, _, rfl⟩
   ·have hw := hd2 hz
    by_cases hf : (Utf8.decode s n).1 = 65533
    ·have e2 : rep s n = true := by
      cases h : rep s n with
      | true => rfl
      | false => exact absurd (hd1.mpr ⟨hf, h⟩) hz
     go_wp2_with (first | (go_at_call 117; refine (cp _).mono ?_; rintro e w' ⟨rfl, rfl⟩))
     go_roundw
     case rel => exact ⟨n + len s n, hi, rfl, HB.out.trans (bad_step hlt hz)⟩
     case measure => simp; omega
    ·have hf' : (((Utf8.decode s n).1 : Int) == 65533) = false := by simp; omega
     go_wp2
     go_roundw
     case rel => exact ⟨n + len s n, hi, rfl, HB.out.trans (bad_step hlt hz)⟩
     case measure => simp; omega
  ·have hnx : ∀ ty, (Instr.next (.pointer (some ⟨w.heap.size, 0, none⟩)) true ty).run prog (w.iter s n) = _ := fun ty => run_next_end w s n ty hlt
   go_wp2
   go_ret2
   have e := verr_none (HB.out.trans (bad_end hlt))
   rw [e.1, e.2]
   exact ⟨rfl, _, rfl⟩
end Go.Proofs.YtiijfmdfccdagaaGreatDoor.UOwn
namespace Go.Proofs.YtiijfmdfccdagaaGreatDoor.UWord
open Go.ChangeShapes Go.WideShapes Go.ChangeAt Go.RowKit UBase USmall
theorem size_empty {s : ByteArray} (h : s.size = 0) : s = ByteArray.empty := by
 apply ByteArray.ext
 apply Array.eq_empty_of_size_eq_zero
 exact h
theorem word_of {s : ByteArray} {j : Nat} (h1 : 0 < s.size) (h2 : s.size <= 32) (h3 : let' (at' s 0) = true) (h4 : ∀ i, i < s.size -> sign j (at' s i) = true) : word s j = true := by
 unfold word
 simp only [decide_eq_true h1, decide_eq_true h2, h3, Bool.true_and]
 exact decide_eq_true h4
theorem word_not {s : ByteArray} {j : Nat} (h : ¬ (0 < s.size /\ s.size <= 32 /\ let' (at' s 0) = true)) : word s j = false := by
 cases e : word s j with
 | false => rfl
 | true =>
  unfold word at e
  simp only [Bool.and_eq_true, decide_eq_true_eq] at e
  exact absurd ⟨e.1, e.2.1, e.2.2.1⟩ h
theorem word_bad {s : ByteArray} {j i : Nat} (hi : i < s.size) (h : sign j (at' s i) = false) : word s j = false := by
 cases e : word s j with
 | false => rfl
 | true =>
  unfold word at e
  simp only [Bool.and_eq_true, decide_eq_true_eq] at e
  rw [e.2.2.2 i hi] at h
  cases h
theorem sign_let {j c : Nat} (h : let' c = true) : sign j c = true := by unfold sign; rw [h]; rfl
theorem sign_dig {j c : Nat} (h : dig c = true) : sign j c = true := by unfold sign; rw [h]; simp
theorem sign_joint {j c : Nat} (h : ((c : Int) != (j : Int)) = false) : sign j c = true := by
 have e : c = j := by simp at h; omega
 unfold sign
 rw [decide_eq_true e]
 simp
theorem sign_none {j c : Nat} (h1 : ¬ let' c = true) (h2 : ¬ dig c = true) (h : ((c : Int) != (j : Int)) = true) : sign j c = false := by
 have e : ¬ c = j := by simp at h; omega
 unfold sign
 simp [h1, h2, e]
theorem own_empty (j : Int) (w : World) :
  Calls prog 175 #[.string ByteArray.empty, .int .u8 j] w fun r w' => r = .returned (.bool false) /\ w' = w := by
 go_enter func175, ntmps175
 go_wp2
 go_ret
 exact ⟨rfl, rfl⟩
theorem own_long (s : ByteArray) (h : 32 < s.size) (hs : s.size <= 9223372036854775807) (j : Int) (w : World) :
  Calls prog 175 #[.string s, .int .u8 j] w fun r w' => r = .returned (.bool false) /\ w' = w := by
 have h0 : 0 < s.size := by omega
 have he : ¬ s = ByteArray.empty := fun h => by subst h; revert h0; decide
 have he2 : ((s.size : Int) == 0) = false := by simp; omega
 go_enter func175, ntmps175
 go_wp2
 go_ret
 exact ⟨rfl, rfl⟩
theorem own_first (s : ByteArray) (h0 : 0 < s.size) (h : s.size <= 32) (hl : let' s[0].toNat = false) (j : Int) (w : World) :
  Calls prog 175 #[.string s, .int .u8 j] w fun r w' => r = .returned (.bool false) /\ w' = w := by
 have he : ¬ s = ByteArray.empty := fun h => by subst h; revert h0; decide
 have he2 : ((s.size : Int) == 0) = false := by simp; omega
 have he3 : decide ((32 : Int) < (s.size : Int)) = false := by simp; omega
 go_enter func175, ntmps175
 go_wp2_with (first | (go_at_call 187; refine (letter_c _ (s[0].toNat) rfl _).mono ?_; rintro e w' ⟨rfl, rfl⟩))
 go_ret
 exact ⟨rfl, rfl⟩
theorem own_go (s : ByteArray) (h0 : 0 < s.size) (h : s.size <= 32) (hl : let' s[0].toNat = true) (j : Nat) (w : World) :
  Calls prog 175 #[.string s, .int .u8 j] w fun r w' => r = .returned (.bool (word s j)) /\ w' = w := by
 have he : ¬ s = ByteArray.empty := fun h => by subst h; revert h0; decide
 have he2 : ((s.size : Int) == 0) = false := by simp; omega
 have he3 : decide ((32 : Int) < (s.size : Int)) = false := by simp; omega
 go_enter func175, ntmps175
 go_wp2_with (first | (go_at_call 187; refine (letter_c _ (s[0].toNat) rfl _).mono ?_; rintro e w' ⟨rfl, rfl⟩))
 go_loop [22] (fun i => ∃ n : Nat, n <= s.size /\ i = .int .i64 n /\ ∀ i, i < n -> sign j (at' s i) = true) (fun i => s.size - (intOf i).toNat)
 case atStart => exact ⟨0, by omega, rfl, fun i hi => by omega⟩
 case round =>
  obtain ⟨n, hn, rfl, ha⟩ := hrel
  have HA : Hid (∀ i, i < n -> sign j (at' s i) = true) := ha
  clear ha
  by_cases hlt : n < s.size
  ·have E : Hid (at' s n = (s[n]'hlt).toNat) := at_get s n hlt
   go_wp2_with (first
    | (go_at_call 187; refine (letter_c _ (s[n].toNat) rfl _).mono ?_; rintro e w' ⟨rfl, rfl⟩)
    | (go_at_call 188; refine (digit_c _ (s[n].toNat) rfl _).mono ?_; rintro e w' ⟨rfl, rfl⟩))
   ·have g : sign j s[n].toNat = true := sign_let (by assumption)
    go_round
    case rel =>
     refine ⟨n + 1, by omega, by go_num, fun i hi => ?_⟩
     by_cases c : i < n
     ·exact HA.out i c
     ·obtain rfl : i = n := by omega
      rw [E.out]
      exact g
    case measure => simp only [intOf]; omega
   ·have g : sign j s[n].toNat = true := sign_dig (by assumption)
    go_round
    case rel =>
     refine ⟨n + 1, by omega, by go_num, fun i hi => ?_⟩
     by_cases c : i < n
     ·exact HA.out i c
     ·obtain rfl : i = n := by omega
      rw [E.out]
      exact g
    case measure => simp only [intOf]; omega
   ·have g : sign j s[n].toNat = false := sign_none (by assumption) (by assumption) (by assumption)
    go_ret
    have e : word s j = false := word_bad hlt (by rw [E.out]; exact g)
    rw [e]
    exact ⟨rfl, rfl⟩
   ·have g : sign j s[n].toNat = true := sign_joint (by assumption)
    go_round
    case rel =>
     refine ⟨n + 1, by omega, by go_num, fun i hi => ?_⟩
     by_cases c : i < n
     ·exact HA.out i c
     ·obtain rfl : i = n := by omega
      rw [E.out]
      exact g
    case measure => simp only [intOf]; omega
  ·go_wp2
   go_ret
   have e : word s j = true := word_of h0 h (by rw [at_get s 0 h0]; exact hl) (fun i hi => HA.out i (by omega))
   rw [e]
   exact ⟨rfl, rfl⟩
theorem own_c (s : ByteArray) (hs : s.size <= 9223372036854775807) (j : Nat) (w : World) :
  Calls prog 175 #[.string s, .int .u8 j] w fun r w' => r = .returned (.bool (word s j)) /\ w' = w := by
 by_cases h0 : 0 < s.size
 ·by_cases h : s.size <= 32
  ·have e := at_get s 0 h0
   cases hl : let' s[0].toNat with
   | true => exact own_go s h0 h hl j w
   | false =>
    rw [word_not (by rw [e, hl]; simp)]
    exact own_first s h0 h hl j w
  ·rw [word_not (by omega)]
   exact own_long s (by omega) hs j w
 ·rw [word_not (by omega)]
  obtain rfl := size_empty (by omega : s.size = 0)
  exact own_empty j w
theorem tag_c (s : ByteArray) (hs : s.size <= 9223372036854775807) (w : World) :
  Calls prog 149 #[.string s] w fun r w' => r = .returned (.bool (word s 45)) /\ w' = w := by
 go_enter func149, ntmps149
 go_wp2_with (first | (go_at_call 175; refine (own_c s hs 45 _).mono ?_; rintro e w' ⟨rfl, rfl⟩))
 go_ret
 exact ⟨rfl, rfl⟩
end Go.Proofs.YtiijfmdfccdagaaGreatDoor.UWord
namespace Go.Proofs.YtiijfmdfccdagaaGreatDoor.SNm
open Go.RowKit UBase
theorem Name_c (s : ByteArray) (hs : s.size <= 9223372036854775807) (w : World) :
  Calls prog 156 #[.string s] w fun r w' => r = .returned (.bool (UBase.word s 95)) /\ w' = w := by
 have c1 := UWord.own_c s hs 95 w
 go_enter func156, ntmps156
 go_wp2_with (first | (go_at_call 175; refine c1.mono ?_; rintro e w' ⟨rfl, rfl⟩))
 go_ret
 exact ⟨rfl, rfl⟩
end Go.Proofs.YtiijfmdfccdagaaGreatDoor.SNm
namespace Go.Proofs.YtiijfmdfccdagaaGreatDoor.SFit
open Go.RowKit Base UBase
open XBase (four_box frozen_box)
def kd (o : Int) : Int := if 1 <= o /\ o <= 6 then 0 else if o = 7 \/ o = 9 \/ o = 10 \/ o = 11 then 1 else if o = 8 \/ (12 <= o /\ o <= 30) then 2 else if o = 31 then 3 else -1
theorem ret_int {k : IntKind} {a b : Int} (h : a = b) : Ending.returned (.int k a) = .returned (.int k b) := by rw [h]
theorem kidsOf_c (o : Int) (h1 : -9223372036854775808 <= o) (h2 : o <= 9223372036854775807) (w : World) : Calls prog 115 #[.int .i64 o] w fun e w' => e = .returned (.int .i64 (kd o)) /\ w' = w := by
 go_enter func115, ntmps115
 go_wp2_with fail
 all_goals
  go_ret
  refine ⟨ret_int ?_, rfl⟩
  unfold kd
  simp_all
  try omega
theorem ne : ∀ s : ByteArray, s.toList.isEmpty = (s.size == 0) := by
 intro s
 rw [ByteArray.toList_eq]
 cases h : s.data.toList with
 | nil =>
  have : s.size = 0 := by rw [<- ByteArray.size_data, <- Array.length_toList, h]; rfl
  simp [this]
 | cons a r =>
  have : s.size = r.length + 1 := by rw [<- ByteArray.size_data, <- Array.length_toList, h]; rfl
  simp [this]
def ft (lf : Int -> Int -> ByteArray -> Bool) (o i : Int) (t : ByteArray) : Bool :=
 if o = 5 \/ o = 6 then lf o i t
 else if o = 4 then decide (0 <= i) && (t.size == 0)
 else if o = 7 then (i == 0) && UBase.word t 95
 else if o = 9 then (decide (1 <= i) && decide (i <= 8)) && (t.size == 0)
 else (i == 0) && (t.size == 0)
abbrev lfv (k : Nat) : Value := .func (Fn.func k) #[] #[]
def Lf (k : Nat) (lf : Int -> Int -> ByteArray -> Bool) : Prop := (∀ (args : Array Value) (w : World), Sem.run prog (callFunc k args) w = .ok (.enter k args) w) /\ ∀ (o i : Int) (t : ByteArray) (a : Option Addr) (n c : Nat) (w : World), (o = 5 \/ o = 6) -> t.size <= 140737488351232 ->
 Calls prog k #[.agg #[.int .i64 o, .int .i64 i, .string t, .slice a n c]] w fun e w' => e = .returned (.bool (lf o i t)) /\ Below w.heap.size w w'
theorem ret_bool {a b : Bool} (h : a = b) : Ending.returned (.bool a) = .returned (.bool b) := by rw [h]
theorem fits_int {k : Nat} {lf : Int -> Int -> ByteArray -> Bool} {i : Int} {t : ByteArray} {a : Option Addr} {n c : Nat} (w : World) :
  Calls prog 116 #[.agg #[.int .i64 4, .int .i64 i, .string t, .slice a n c], lfv k] w fun e w' => e = .returned (.bool (ft lf 4 i t)) /\ Below w.heap.size w w' := by
 have b0 : Below w.heap.size w (w.alloc (.cells #[.int .i64 4, .int .i64 i, .string t, .slice a n c] 47)) := (Below.refl _ w).alloc (Nat.le_refl _) _
 have hne := ne t
 have e : ft lf 4 i t = (decide (0 <= i) && (t.size == 0)) := rfl
 rw [e]
 obtain ⟨z, hz⟩ : ∃ z, (t.size == 0) = z := ⟨_, rfl⟩
 rw [hz] at hne ⊢
 clear e hz
 by_cases hi : 0 <= i
 ·have d : decide ((0 : Int) <= i) = true := decide_eq_true hi
  rw [d, Bool.true_and]
  clear hi
  go_enter func116, ntmps116
  go_wp2_with fail
  go_ret
  exact ⟨ret_bool rfl, b0⟩
 ·have d : decide ((0 : Int) <= i) = false := decide_eq_false hi
  rw [d, Bool.false_and]
  clear hi
  go_enter func116, ntmps116
  go_wp2_with fail
  go_ret
  exact ⟨rfl, b0⟩
theorem fits_else {k : Nat} {lf : Int -> Int -> ByteArray -> Bool} {o i : Int} {t : ByteArray} {a : Option Addr} {n c : Nat} (h4 : o ≠ 4) (h5 : o ≠ 5) (h6 : o ≠ 6) (h7 : o ≠ 7) (h9 : o ≠ 9) (w : World) :
  Calls prog 116 #[.agg #[.int .i64 o, .int .i64 i, .string t, .slice a n c], lfv k] w fun e w' => e = .returned (.bool (ft lf o i t)) /\ Below w.heap.size w w' := by
 have b0 : Below w.heap.size w (w.alloc (.cells #[.int .i64 o, .int .i64 i, .string t, .slice a n c] 47)) := (Below.refl _ w).alloc (Nat.le_refl _) _
 have hne := ne t
 have e : ft lf o i t = ((i == 0) && (t.size == 0)) := by unfold ft; rw [if_neg (by omega), if_neg h4, if_neg h7, if_neg h9]
 rw [e]
 have e4 : (o == 4) = false := by simp [h4]
 have e5 : (o == 5) = false := by simp [h5]
 have e6 : (o == 6) = false := by simp [h6]
 have e7 : (o == 7) = false := by simp [h7]
 have e9 : (o == 9) = false := by simp [h9]
 obtain ⟨z, hz⟩ : ∃ z, (t.size == 0) = z := ⟨_, rfl⟩
 rw [hz] at hne ⊢
 clear e hz h4 h5 h6 h7 h9
 cases hi : (i == 0) with
 | true =>
  rw [Bool.true_and]
  go_enter func116, ntmps116
  go_wp2_with fail
  go_ret
  exact ⟨ret_bool rfl, b0⟩
 | false =>
  rw [Bool.false_and]
  go_enter func116, ntmps116
  go_wp2_with fail
  go_ret
  exact ⟨rfl, b0⟩
theorem fits_field {k : Nat} {lf : Int -> Int -> ByteArray -> Bool} {i : Int} {t : ByteArray} {a : Option Addr} {n c : Nat} (ht : t.size <= 140737488351232) (w : World) :
  Calls prog 116 #[.agg #[.int .i64 7, .int .i64 i, .string t, .slice a n c], lfv k] w fun e w' => e = .returned (.bool (ft lf 7 i t)) /\ Below w.heap.size w w' := by
 have b0 : Below w.heap.size w (w.alloc (.cells #[.int .i64 7, .int .i64 i, .string t, .slice a n c] 47)) := (Below.refl _ w).alloc (Nat.le_refl _) _
 have e : ft lf 7 i t = ((i == 0) && UBase.word t 95) := rfl
 rw [e]
 have cT := fun W => SNm.Name_c t (by omega) W
 obtain ⟨z, hz⟩ : ∃ z, UBase.word t 95 = z := ⟨_, rfl⟩
 rw [hz] at cT ⊢
 clear e hz
 cases hi : (i == 0) with
 | true =>
  rw [Bool.true_and]
  go_enter func116, ntmps116
  go_wp2_with fail
  refine (cT _).mono ?_
  rintro e W1 ⟨rfl, rfl⟩
  go_wp2_with fail
  go_ret
  exact ⟨rfl, b0⟩
 | false =>
  rw [Bool.false_and]
  go_enter func116, ntmps116
  go_wp2_with fail
  go_ret
  exact ⟨rfl, b0⟩
theorem fits_call {k : Nat} {lf : Int -> Int -> ByteArray -> Bool} {i : Int} {t : ByteArray} {a : Option Addr} {n c : Nat} (w : World) :
  Calls prog 116 #[.agg #[.int .i64 9, .int .i64 i, .string t, .slice a n c], lfv k] w fun e w' => e = .returned (.bool (ft lf 9 i t)) /\ Below w.heap.size w w' := by
 have b0 : Below w.heap.size w (w.alloc (.cells #[.int .i64 9, .int .i64 i, .string t, .slice a n c] 47)) := (Below.refl _ w).alloc (Nat.le_refl _) _
 have hne := ne t
 have e : ft lf 9 i t = ((decide (1 <= i) && decide (i <= 8)) && (t.size == 0)) := rfl
 rw [e]
 obtain ⟨z, hz⟩ : ∃ z, (t.size == 0) = z := ⟨_, rfl⟩
 rw [hz] at hne ⊢
 clear e hz
 by_cases h1 : 1 <= i
 ·have d1 : decide ((1 : Int) <= i) = true := decide_eq_true h1
  rw [d1, Bool.true_and]
  by_cases h8 : i <= 8
  ·have d8 : decide (i <= (8 : Int)) = true := decide_eq_true h8
   rw [d8, Bool.true_and]
   clear h1 h8
   go_enter func116, ntmps116
   go_wp2_with fail
   go_ret
   exact ⟨ret_bool rfl, b0⟩
  ·have d8 : decide (i <= (8 : Int)) = false := decide_eq_false h8
   rw [d8, Bool.false_and]
   clear h1 h8
   go_enter func116, ntmps116
   go_wp2_with fail
   go_ret
   exact ⟨rfl, b0⟩
 ·have d1 : decide ((1 : Int) <= i) = false := decide_eq_false h1
  rw [d1, Bool.false_and, Bool.false_and]
  clear h1
  go_enter func116, ntmps116
  go_wp2_with fail
  go_ret
  exact ⟨rfl, b0⟩
theorem fits_leaf {k : Nat} {lf : Int -> Int -> ByteArray -> Bool} (hL : Lf k lf) {o i : Int} {t : ByteArray} {a : Option Addr} {n c : Nat} (h : o = 5 \/ o = 6) (ht : t.size <= 140737488351232) (w : World) :
  Calls prog 116 #[.agg #[.int .i64 o, .int .i64 i, .string t, .slice a n c], lfv k] w fun e w' => e = .returned (.bool (ft lf o i t)) /\ Below w.heap.size w w' := by
 have b0 : Below w.heap.size w (w.alloc (.cells #[.int .i64 o, .int .i64 i, .string t, .slice a n c] 47)) := (Below.refl _ w).alloc (Nat.le_refl _) _
 have e : ft lf o i t = lf o i t := by unfold ft; rw [if_pos h]
 rw [e]
 have hE := hL.1
 have cL := hL.2 o i t a n c (w.alloc (.cells #[.int .i64 o, .int .i64 i, .string t, .slice a n c] 47)) h ht
 obtain ⟨z, hz⟩ : ∃ z, lf o i t = z := ⟨_, rfl⟩
 rw [hz] at cL ⊢
 clear e hz hL
 rcases h with rfl | rfl
 ·go_enter func116, ntmps116
  go_wp2_with fail
  refine cL.mono ?_
  rintro e W1 ⟨rfl, b1⟩
  go_wp2_with fail
  go_ret
  exact ⟨rfl, nx b0 b1⟩
 ·go_enter func116, ntmps116
  go_wp2_with fail
  refine cL.mono ?_
  rintro e W1 ⟨rfl, b1⟩
  go_wp2_with fail
  go_ret
  exact ⟨rfl, nx b0 b1⟩
theorem fits_c {k : Nat} {lf : Int -> Int -> ByteArray -> Bool} (hL : Lf k lf) {o i : Int} {t : ByteArray} {a : Option Addr} {n c : Nat} (ht : t.size <= 140737488351232) (w : World) :
  Calls prog 116 #[.agg #[.int .i64 o, .int .i64 i, .string t, .slice a n c], lfv k] w fun e w' => e = .returned (.bool (ft lf o i t)) /\ Below w.heap.size w w' := by
 by_cases h4 : o = 4
 ·subst h4; exact fits_int w
 by_cases h5 : o = 5 \/ o = 6
 ·exact fits_leaf hL h5 ht w
 by_cases h7 : o = 7
 ·subst h7; exact fits_field ht w
 by_cases h9 : o = 9
 ·subst h9; exact fits_call w
 exact fits_else h4 (by omega) (by omega) h7 h9 w
end Go.Proofs.YtiijfmdfccdagaaGreatDoor.SFit
namespace Go.Proofs.YtiijfmdfccdagaaGreatDoor.JPure
open Go.RowKit Base EPure VPure
open SFit (kd)
def evL (ρ : Int -> Option C) : List Ex -> List Ans
 | [] => []
 | .mk o i s l :: t => node (fun _ => ρ i) o i s (evL ρ l) :: evL ρ t
def ev (ρ : Int -> Option C) (x : Ex) : Ans := node (fun _ => ρ x.i) x.o x.i x.s (evL ρ x.l)
theorem evL_cons (ρ : Int -> Option C) (x : Ex) (t : List Ex) : evL ρ (x :: t) = ev ρ x :: evL ρ t := by
 obtain ⟨o, i, s, l⟩ := x
 rw [evL]
 rfl
theorem evL_get (ρ : Int -> Option C) : ∀ (l : List Ex) (j : Nat) (h : j < l.length), (evL ρ l).getD j (.error 0) = ev ρ l[j]
 | [], j, h => absurd h (by simp)
 | x :: t, 0, h => by rw [evL_cons]; rfl
 | x :: t, j + 1, h => by
  rw [evL_cons]
  have := evL_get ρ t j (by simpa using h)
  simpa using this
theorem evL_wf {ρ : Int -> Option C} (hρ : ∀ (j : Int) c, ρ j = some c -> wf c) : ∀ (l : List Ex) (q : Nat) (c : C), (evL ρ l).getD q (.error 0) = .ok c -> wf c
 | [], q, c, h => by simp [evL] at h
 | .mk o i s l :: t, 0, c, h => by
  rw [evL] at h
  exact node_wf (fun _ c h => hρ i c h) (evL_wf hρ l) h
 | .mk o i s l :: t, q + 1, c, h => by
  rw [evL] at h
  exact evL_wf hρ t q c (by simpa using h)
theorem ev_wf {ρ : Int -> Option C} (hρ : ∀ (j : Int) c, ρ j = some c -> wf c) (x : Ex) (c : C) (h : ev ρ x = .ok c) : wf c := node_wf (fun _ c h => hρ x.i c h) (evL_wf hρ x.l) h
def gdL : List Ex -> Prop
 | [] => True
 | .mk o i s l :: t => ((l.length : Int) = kd o /\ True /\ gdL l) /\ gdL t
theorem gdL_cons {x : Ex} {t : List Ex} : gdL (x :: t) ↔ ((x.l.length : Int) = kd x.o /\ True /\ gdL x.l) /\ gdL t := by
 obtain ⟨o, i, s, l⟩ := x
 rw [gdL]
 exact Iff.rfl
def gd (x : Ex) : Prop := (x.l.length : Int) = kd x.o /\ True /\ gdL x.l
theorem gdL_get : ∀ {l : List Ex}, gdL l -> ∀ {j : Nat} (h : j < l.length), gd l[j]
 | [], _, _, h => absurd h (by simp)
 | x :: t, hg, 0, _ => (gdL_cons.1 hg).1
 | x :: t, hg, j + 1, h => gdL_get (gdL_cons.1 hg).2 (j := j) (by simpa using h)
end Go.Proofs.YtiijfmdfccdagaaGreatDoor.JPure
namespace Go.Proofs.YtiijfmdfccdagaaGreatDoor.JVr
open Go.RowKit Base VSm VRs
open VPure hiding evL
abbrev clo (Pv : Value) : Value := .func (Fn.func 44) #[Pv] #[]
abbrev xv (o i : Int) (s : ByteArray) (lv : Value) : Value := .agg #[.int .i64 o, .int .i64 i, .string s, lv]
def Bd (K m : Nat) (w : World) (Pv : Value) (ρ : Int -> Option C) : Prop := ∀ W, Below w.heap.size w W -> ∀ (o i : Int) (s : ByteArray) (lv : Value), s.size <= 140737488351232 -> Calls prog 44 #[Pv, xv o i s lv] W fun e w' => Below W.heap.size W w' /\
 ∃ k b j t an ln cn al ll cl, e = .returned (.tuple #[vl k b j t (.slice an ln cn) (.slice al ll cl), .bool (ρ i).isSome]) /\ ∀ c, ρ i = some c -> Base.In false (fun b => b < K) w' m (vl k b j t (.slice an ln cn) (.slice al ll cl)) c
theorem Bd.below {K m : Nat} {w w' : World} {Pv : Value} {ρ : Int -> Option C} (h : Bd K m w Pv ρ) (hb : Below w.heap.size w w') : Bd K m w' Pv ρ := fun W hW => h W (hb.trans (hW.mono hb.size))
theorem variable_c {K m : Nat} {w : World} {Pv : Value} {ρ : Int -> Option C} (hK : K <= w.heap.size) (hB : Bd K m w Pv ρ) (o i : Int) (s : ByteArray) (lv : Value) (hs : s.size <= 140737488351232) :
  Calls prog 91 #[.agg #[clo Pv], xv o i s lv] w fun e w' => VR K m w (match ρ i with
   | none => .error 1100
   | some c => .ok c) e w' := by
 obtain ⟨W0, hW0, hs0, hb0, hk, hx, hr⟩ := three w #[clo Pv] #[.int .i64 o, .int .i64 i, .string s, lv] 126 47
 have kc : W0.cell? ⟨w.heap.size, 0, none⟩ = some (clo Pv) := by simp [World.cell?, hk]
 obtain ⟨x0, x1, x2, x3⟩ := XBase.four_box hx
 have cB := hB W0 hb0 o i s lv hs
 have HR := hid hr
 have HB := hid hb0
 clear hk hx hr hb0 hB
 obtain ⟨U, hU⟩ : ∃ U, (match ρ i with | none => (.error 1100 : Ans) | some c => .ok c) = U := ⟨_, rfl⟩
 rw [hU]
 go_enter func91, ntmps91
 go_wp2_with fail
 try rw [hW0]
 refine cB.mono ?_
 rintro e W1 ⟨hb1, k, b, j, t, an, ln, cn, al, ll, cl, rfl, hin⟩
 have hs1 := hb1.size
 have HR1 := hid ((hb1.block _ (by omega)).trans HR.out)
 have HB1 := hid (HB.out.trans (hb1.mono HB.out.size))
 clear hb1 cB HR HB kc x0 x1 x2 x3 hW0
 obtain ⟨W2, hW2⟩ : ∃ W2, W1.alloc (.cells #[.int .i64 0, .bool false, .int .i64 0, .string ⟨#[]⟩, .slice none 0 0, .slice none 0 0] 26) = W2 := ⟨_, rfl⟩
 have hn := alG hW2
 have hb2 := alB hW2
 obtain ⟨n0, n1, n2, n3, n4, n5⟩ := six_box hn
 obtain ⟨nf0, nf1, nf2, nf3, nf4, nf5⟩ := Base.frz6 hn
 obtain ⟨W3, hW3⟩ := stc6 W2 W1.heap.size (.int .i64 k) (.bool b) (.int .i64 j) (.string t) (.slice an ln cn) (.slice al ll cl)
 obtain ⟨a1, a2, a3, a4⟩ := set6 _ _ _ _ _ _ hn hW3
 have hb3 : Below w.heap.size w W3 := a4 _ _ (by omega) (HB1.out.trans (hb2.mono HB1.out.size))
 have hr3 : W3.heap[w.heap.size + 2]? = some (.cells #[.int .i64 0, .bool false, .int .i64 0, .string ⟨#[]⟩, .slice none 0 0, .slice none 0 0] 26 (0, 0)) := (a2 _ (by omega)).trans ((hb2.block _ (by omega)).trans HR1.out)
 obtain ⟨g0, g1, g2, g3, g4, g5⟩ := six_box a1
 have hr := hr3
 obtain ⟨r0, r1, r2, r3, r4, r5⟩ := six_box hr
 obtain ⟨rf0, rf1, rf2, rf3, rf4, rf5⟩ := Base.frz6 hr
 have HB3 := hid hb3
 have HK3 := hid (a4 _ _ (Nat.le_refl _) hb2)
 have HRR := hid hr3
 clear a1 a2 a3 a4 hb2 hb3 hr3 hn hr HR1
 cases hρ : ρ i with
 | none =>
  rw [hρ] at hU
  subst hU
  clear hin hρ
  go_wp2_with fail
  exact ⟨rfl, HB3.out, rfl⟩
 | some c =>
  have HI := hid (hin c hρ)
  rw [hρ] at hU
  subst hU
  clear hin hρ
  go_wp2_with fail
  obtain ⟨W9, hW9⟩ := stc6 W3 (w.heap.size + 2) (.int .i64 k) (.bool b) (.int .i64 j) (.string t) (.slice an ln cn) (.slice al ll cl)
  rw [hW9]
  obtain ⟨q1, q2, q3, q4⟩ := set6 _ _ _ _ _ _ HRR.out hW9
  refine bodyPost_ret (results_cell_row rfl _ W9 (w.heap.size + 2) 26 _ (0, 0) _ rfl q1 underlying26 rfl (by kernel_rfl)) rfl ?_
  exact ⟨q4 _ _ (by omega) HB3.out, _, rfl, in_low HI.out (q4 _ _ (by omega) (HK3.out.mono (by omega)))⟩
end Go.Proofs.YtiijfmdfccdagaaGreatDoor.JVr
namespace Go.Proofs.YtiijfmdfccdagaaGreatDoor.VPk
open Go.RowKit Base VPure VSm VEx VJn VRs Sums
def PairOk (o : Int) : Prop := ∀ (K m : Nat) (w : World) (va vb : Value) (a b : C), K <= w.heap.size -> Tb w -> Base.In false (fun b => b < K) w (m + 1) va a -> Base.In false (fun b => b < K) w (m + 1) vb b -> wf a -> Calls prog 94 #[.int .i64 o, va, vb] w fun e w' => VR K (m + 1) w (pr2 o a b) e w'
theorem pair15 : PairOk 15 := by
 intro K m w va vb a b hK hT hva hvb hwf
 obtain ⟨an, ln, cn, al, ll, cl, rfl⟩ := in_shape hva
 obtain ⟨bn, mn, dn, bl, ml, dl, rfl⟩ := in_shape hvb
 have ha := in_rng hva
 have hb := in_rng hvb
 refine (VPn.pair_Add _ _ _ _ _ _ _ _ _ _ _ _ w (wh 15 a.i b.i).1 (wh 15 a.i b.i).2 (fun _ _ W => ?_)).mono ?_
 ·exact WhA.add a.i b.i ha.1 ha.2 hb.1 hb.2 W
 ·intro e w' h
  exact an_vr (fun c hc => by rw [tw_ok hc]; exact wh_rng ha) h
theorem pair16 : PairOk 16 := by
 intro K m w va vb a b hK hT hva hvb hwf
 obtain ⟨an, ln, cn, al, ll, cl, rfl⟩ := in_shape hva
 obtain ⟨bn, mn, dn, bl, ml, dl, rfl⟩ := in_shape hvb
 have ha := in_rng hva
 have hb := in_rng hvb
 refine (VPn.pair_Sub _ _ _ _ _ _ _ _ _ _ _ _ w (wh 16 a.i b.i).1 (wh 16 a.i b.i).2 (fun _ _ W => ?_)).mono ?_
 ·exact WhA.sub a.i b.i ha.1 ha.2 hb.1 hb.2 W
 ·intro e w' h
  exact an_vr (fun c hc => by rw [tw_ok hc]; exact wh_rng ha) h
theorem pair12 : PairOk 12 := by
 intro K m w va vb a b hK hT hva hvb hwf
 obtain ⟨an, ln, cn, al, ll, cl, rfl⟩ := in_shape hva
 obtain ⟨bn, mn, dn, bl, ml, dl, rfl⟩ := in_shape hvb
 have ha := in_rng hva
 have hb := in_rng hvb
 refine (VPn.pair_Mul _ _ _ _ _ _ _ _ _ _ _ _ w (wh 12 a.i b.i).1 (wh 12 a.i b.i).2 (fun _ _ W => ?_)).mono ?_
 ·exact WhA.mul a.i b.i ha.1 ha.2 hb.1 hb.2 W
 ·intro e w' h
  exact an_vr (fun c hc => by rw [tw_ok hc]; exact wh_rng ha) h
theorem pair13 : PairOk 13 := by
 intro K m w va vb a b hK hT hva hvb hwf
 obtain ⟨an, ln, cn, al, ll, cl, rfl⟩ := in_shape hva
 obtain ⟨bn, mn, dn, bl, ml, dl, rfl⟩ := in_shape hvb
 have ha := in_rng hva
 have hb := in_rng hvb
 refine (VPn.pair_Div _ _ _ _ _ _ _ _ _ _ _ _ w (wh 13 a.i b.i).1 (wh 13 a.i b.i).2 (fun _ _ W => ?_)).mono ?_
 ·exact WhA.div a.i b.i ha.1 ha.2 W
 ·intro e w' h
  exact an_vr (fun c hc => by rw [tw_ok hc]; exact wh_rng ha) h
theorem pair14 : PairOk 14 := by
 intro K m w va vb a b hK hT hva hvb hwf
 obtain ⟨an, ln, cn, al, ll, cl, rfl⟩ := in_shape hva
 obtain ⟨bn, mn, dn, bl, ml, dl, rfl⟩ := in_shape hvb
 have ha := in_rng hva
 have hb := in_rng hvb
 refine (VPn.pair_Mod _ _ _ _ _ _ _ _ _ _ _ _ w (wh 14 a.i b.i).1 (wh 14 a.i b.i).2 (fun _ _ W => ?_)).mono ?_
 ·exact WhA.mod a.i b.i W
 ·intro e w' h
  exact an_vr (fun c hc => by rw [tw_ok hc]; exact wh_rng ha) h
theorem pair18 : PairOk 18 := by
 intro K m w va vb a b hK hT hva hvb hwf
 obtain ⟨an, ln, cn, al, ll, cl, rfl⟩ := in_shape hva
 obtain ⟨bn, mn, dn, bl, ml, dl, rfl⟩ := in_shape hvb
 have ha := in_rng hva
 have hb := in_rng hvb
 refine (VPn.pair_Shl _ _ _ _ _ _ _ _ _ _ _ _ w (wh 18 a.i b.i).1 (wh 18 a.i b.i).2 (fun _ _ W => ?_)).mono ?_
 ·by_cases h : 0 <= b.i /\ b.i <= 63
  ·have e : wh 18 a.i b.i = (num (a.i * 2 ^ b.i.toNat), err (a.i * 2 ^ b.i.toNat)) := if_pos h
   rw [e]
   exact WhA.shl a.i b.i h.1 h.2 W
  ·have e : wh 18 a.i b.i = (0, 102) := if_neg h
   rw [e]
   exact WhA.shl_bad a.i b.i (by omega) W
 ·intro e w' h
  exact an_vr (fun c hc => by rw [tw_ok hc]; exact wh_rng ha) h
theorem pair19 : PairOk 19 := by
 intro K m w va vb a b hK hT hva hvb hwf
 obtain ⟨an, ln, cn, al, ll, cl, rfl⟩ := in_shape hva
 obtain ⟨bn, mn, dn, bl, ml, dl, rfl⟩ := in_shape hvb
 have ha := in_rng hva
 have hb := in_rng hvb
 refine (VPn.pair_Shr _ _ _ _ _ _ _ _ _ _ _ _ w (wh 19 a.i b.i).1 (wh 19 a.i b.i).2 (fun _ _ W => ?_)).mono ?_
 ·by_cases h : 0 <= b.i /\ b.i <= 63
  ·have e : wh 19 a.i b.i = (a.i / 2 ^ b.i.toNat, 0) := if_pos h
   rw [e]
   exact WhA.shr a.i b.i h.1 h.2 W
  ·have e : wh 19 a.i b.i = (0, 102) := if_neg h
   rw [e]
   exact WhA.shr_bad a.i b.i (by omega) W
 ·intro e w' h
  exact an_vr (fun c hc => by rw [tw_ok hc]; exact wh_rng ha) h
theorem pair_cat {m1 m2 : Nat} {c1 c2 : C} (k1 : Int) (b1 : Bool) (i1 : Int) (s1 : ByteArray) (n1 l1 : Value) (k2 : Int) (b2 : Bool) (i2 : Int) (s2 : ByteArray) (n2 l2 : Value) {w : World} (hi1 : Base.In false All w m1 (vl k1 b1 i1 s1 n1 l1) c1) (hi2 : Base.In false All w m2 (vl k2 b2 i2 s2 n2 l2) c2) (ht : Tb w) : Calls prog 94 #[.int .i64 17, vl k1 b1 i1 s1 n1 l1, vl k2 b2 i2 s2 n2 l2] w fun e w' => An w w' e (fun s : ByteArray => v0 4 false 0 s) (bnd (txt c1) fun x => bnd (txt c2) fun y => if 4096 < x.size + y.size then .error 1107 else .ok (x ++ y)) := by
 obtain ⟨W0, hW0, hs0, hb0, hp, hq, hr⟩ := two3 w #[.int .i64 k1, .bool b1, .int .i64 i1, .string s1, n1, l1] #[.int .i64 k2, .bool b2, .int .i64 i2, .string s2, n2, l2]
 have HR := hid hr
 have HB := hid hb0
 obtain ⟨p0, p1, p2, p3, p4, p5⟩ := six_box hp
 obtain ⟨q0, q1, q2, q3, q4, q5⟩ := six_box hq
 have cJ := join_c k1 b1 i1 s1 n1 l1 k2 b2 i2 s2 n2 l2 (hi1.below hb0) (hi2.below hb0) (ht.below hb0)
 generalize (bnd (txt c1) fun x => bnd (txt c2) fun y => if 4096 < x.size + y.size then (.error 1107 : Except Nat ByteArray) else .ok (x ++ y)) = U at *
 clear hp hq hb0 hr hi1 hi2 ht
 go_enter func94, ntmps94
 go_upto_if 35 with fail
 refine wp_cond_true (by rfl) ?_
 refine wp_exit ?_
 repeat (first | (with_reducible refine ex_then ?_) | (with_reducible refine ex_skip (by decide) ?_))
 refine ex_hit ?_
 refine ex_norm ?_
 apply_assumption
 refine wp_mono (Q := Out ?outB) ?outM (out_mono ?outR ?outP)
 case outR => intro a w h; (repeat (first | (with_reducible refine rt_then ?_) | (with_reducible refine rt_blk ?_))); exact h
 case outP => intro c a w h; (repeat (first | (with_reducible refine pn_then ?_) | (with_reducible refine pn_blk ?_))); exact h
 try simp only [hW0]
 go_wp2_with fail
 try rw [hW0]
 refine cJ.mono ?_
 intro e W1 hA
 clear cJ
 cases U with
 | error c =>
  obtain ⟨rfl, hb1⟩ := hA
  exact ⟨rfl, rfl, HB.out.trans (hb1.mono HB.out.size)⟩
 | ok y =>
  obtain ⟨rfl, hb1⟩ := hA
  have hr := (hb1.block (w.heap.size + 2) (by omega)).trans HR.out
  have HB3 := hid (HB.out.trans (hb1.mono HB.out.size))
  clear hb1 HB HR p0 p1 p2 p3 p4 p5 q0 q1 q2 q3 q4 q5
  obtain ⟨r0, r1, r2, r3, r4, r5⟩ := six_box hr
  obtain ⟨rf0, rf1, rf2, rf3, rf4, rf5⟩ := Base.frz6 hr
  go_wp2_with fail
  obtain ⟨W9, hW9⟩ := stc6 W1 (w.heap.size + 2) (.int .i64 4) (.bool false) (.int .i64 0) (.string y) (.slice none 0 0) (.slice none 0 0)
  rw [hW9]
  obtain ⟨q1, q2, q3, q4⟩ := set6 _ _ _ _ _ _ hr hW9
  refine out_ret (results_cell_row rfl _ W9 (w.heap.size + 2) 26 _ (0, 0) _ rfl q1 underlying26 rfl (by kernel_rfl)) rfl ?_
  exact ⟨rfl, q4 _ _ (by omega) HB3.out⟩
theorem pair17 : PairOk 17 := by
 intro K m w va vb a b hK hT hva hvb hwf
 have hz1 := fun x => @txt_le _ _ _ _ hva.plain x
 have hz2 := fun x => @txt_le _ _ _ _ hvb.plain x
 have h1 := hva.plain
 have h2 := hvb.plain
 obtain ⟨an, ln, cn, al, ll, cl, rfl⟩ := in_shape hva
 obtain ⟨bn, mn, dn, bl, ml, dl, rfl⟩ := in_shape hvb
 refine (pair_cat _ _ _ _ _ _ _ _ _ _ _ _ h1 h2 hT).mono ?_
 intro e w' h
 have e1 : pr2 17 a b = cat a b := rfl
 rw [e1]
 unfold cat
 generalize txt a = T1 at *
 generalize txt b = T2 at *
 cases T1 with
 | error n => exact ⟨h.2, h.1⟩
 | ok x =>
  cases T2 with
  | error n => exact ⟨h.2, h.1⟩
  | ok y =>
   have hx := hz1 x rfl
   have hy := hz2 y rfl
   by_cases hl : 4096 < x.size + y.size
   ·have e2 : (bnd (.ok x : Except Nat ByteArray) fun x => bnd (.ok y : Except Nat ByteArray) fun y => if 4096 < x.size + y.size then (.error 1107 : Except Nat ByteArray) else .ok (x ++ y)) = .error 1107 := if_pos hl
    have e3 : (bnd (.ok x : Except Nat ByteArray) fun x => bnd (.ok y : Except Nat ByteArray) fun y => if 4096 < x.size + y.size then (.error 1107 : Ans) else .ok (strC (x ++ y))) = .error 1107 := if_pos hl
    rw [e2] at h
    rw [e3]
    exact ⟨h.2, h.1⟩
   ·have e2 : (bnd (.ok x : Except Nat ByteArray) fun x => bnd (.ok y : Except Nat ByteArray) fun y => if 4096 < x.size + y.size then (.error 1107 : Except Nat ByteArray) else .ok (x ++ y)) = .ok (x ++ y) := if_neg hl
    have e3 : (bnd (.ok x : Except Nat ByteArray) fun x => bnd (.ok y : Except Nat ByteArray) fun y => if 4096 < x.size + y.size then (.error 1107 : Ans) else .ok (strC (x ++ y))) = .ok (strC (x ++ y)) := if_neg hl
    rw [e2] at h
    rw [e3]
    exact ⟨h.2, _, h.1, in_str _ w' m (by rw [ByteArray.size_append]; omega)⟩
end Go.Proofs.YtiijfmdfccdagaaGreatDoor.VPk

/- Code that is run: what it comes to may be. -/
import Derived.Test.YtpaigpijaifeoaaGreatDoorUSmall
import Derived.LoopTactic
import Derived.Test.YtpaigpijaifeoaaGreatDoorXBase
import Derived.Test.YtpaigpijaifeoaaGreatDoorUOwn
import Derived.BigQuiet
import Derived.Deep.RegionWith
import Derived.Test.YtpaigpijaifeoaaGreatDoorVPure
import Derived.Test.YtpaigpijaifeoaaGreatDoorJGd
import Derived.Test.YtpaigpijaifeoaaGreatDoorVPm
import Derived.Test.YtpaigpijaifeoaaGreatDoorMPl
import Derived.Test.YtpaigpijaifeoaaGreatDoorMHt
namespace Go.Proofs.YtpaigpijaifeoaaGreatDoor.UWord
open Go.ChangeShapes Go.WideShapes Go.ChangeAt Go.RowKit Go.Proofs.YtpaigpijaifeoaaGreatDoor.UBase Go.Proofs.YtpaigpijaifeoaaGreatDoor.USmall
set_option linter.unusedVariables false

theorem size_empty {s : ByteArray} (h : s.size = 0) : s = ByteArray.empty := by
  apply ByteArray.ext
  apply Array.eq_empty_of_size_eq_zero
  exact h
theorem word_of {s : ByteArray} {j : Nat} (h1 : 0 < s.size) (h2 : s.size ≤ 32) (h3 : let' (at' s 0) = true) (h4 : ∀ i, i < s.size → sign j (at' s i) = true) : word s j = true := by
  unfold word
  simp only [decide_eq_true h1, decide_eq_true h2, h3, Bool.true_and]
  exact decide_eq_true h4
theorem word_not {s : ByteArray} {j : Nat} (h : ¬ (0 < s.size ∧ s.size ≤ 32 ∧ let' (at' s 0) = true)) : word s j = false := by
  cases e : word s j with
  | false => rfl
  | true =>
    unfold word at e
    simp only [Bool.and_eq_true, decide_eq_true_eq] at e
    exact absurd ⟨e.1, e.2.1, e.2.2.1⟩ h
theorem word_bad {s : ByteArray} {j i : Nat} (hi : i < s.size) (h : sign j (at' s i) = false) : word s j = false := by
  cases e : word s j with
  | false => rfl
  | true =>
    unfold word at e
    simp only [Bool.and_eq_true, decide_eq_true_eq] at e
    rw [e.2.2.2 i hi] at h
    cases h
theorem sign_let {j c : Nat} (h : let' c = true) : sign j c = true := by unfold sign; rw [h]; rfl
theorem sign_dig {j c : Nat} (h : dig c = true) : sign j c = true := by unfold sign; rw [h]; simp
theorem sign_joint {j c : Nat} (h : ((c : Int) != (j : Int)) = false) : sign j c = true := by
  have e : c = j := by simp at h; omega
  unfold sign
  rw [decide_eq_true e]
  simp
theorem sign_none {j c : Nat} (h1 : ¬ let' c = true) (h2 : ¬ dig c = true) (h : ((c : Int) != (j : Int)) = true) : sign j c = false := by
  have e : ¬ c = j := by simp at h; omega
  unfold sign
  simp [h1, h2, e]
theorem sign_rng {j c : Nat} (h : (97 ≤ c ∧ c ≤ 122) ∨ (48 ≤ c ∧ c ≤ 57)) : sign j c = true := by
  unfold sign let' dig
  simp
  omega
theorem sign_not {j c : Nat} (h1 : ¬ (97 ≤ c ∧ c ≤ 122)) (h2 : ¬ (48 ≤ c ∧ c ≤ 57)) (h : ((c : Int) != (j : Int)) = true) : sign j c = false := by
  have e : ¬ c = j := by simp at h; omega
  unfold sign let' dig
  simp [e]
  omega
theorem own_empty (j : Int) (w : World) :
    Calls Tryz.prog 192 #[.string ByteArray.empty, .int .u8 j] w fun r w' => r = .returned (.bool false) ∧ w' = w := by
  go_enter Tryz.func192, Tryz.ntmps192
  go_wp2
  go_ret
  exact ⟨rfl, rfl⟩
theorem own_long (s : ByteArray) (h : 32 < s.size) (hs : s.size ≤ 9223372036854775807) (j : Int) (w : World) :
    Calls Tryz.prog 192 #[.string s, .int .u8 j] w fun r w' => r = .returned (.bool false) ∧ w' = w := by
  have h0 : 0 < s.size := by omega
  have he : ¬ s = ByteArray.empty := fun h => by subst h; revert h0; decide
  have he2 : ((s.size : Int) == 0) = false := by simp; omega
  go_enter Tryz.func192, Tryz.ntmps192
  go_wp2
  go_ret
  exact ⟨rfl, rfl⟩
theorem own_first (s : ByteArray) (h0 : 0 < s.size) (h : s.size ≤ 32) (hl : let' s[0].toNat = false) (j : Int) (w : World) :
    Calls Tryz.prog 192 #[.string s, .int .u8 j] w fun r w' => r = .returned (.bool false) ∧ w' = w := by
  have he : ¬ s = ByteArray.empty := fun h => by subst h; revert h0; decide
  have he2 : ((s.size : Int) == 0) = false := by simp; omega
  have he3 : decide ((32 : Int) < (s.size : Int)) = false := by simp; omega
  go_enter Tryz.func192, Tryz.ntmps192
  go_wp2_with (first | (go_at_call 204; refine (letter_c _ (s[0].toNat) rfl _).mono ?_; rintro e w' ⟨rfl, rfl⟩))
  go_ret
  exact ⟨rfl, rfl⟩
theorem own_go (s : ByteArray) (h0 : 0 < s.size) (h : s.size ≤ 32) (hl : let' s[0].toNat = true) (j : Nat) (w : World) :
    Calls Tryz.prog 192 #[.string s, .int .u8 j] w fun r w' => r = .returned (.bool (word s j)) ∧ w' = w := by
  have he : ¬ s = ByteArray.empty := fun h => by subst h; revert h0; decide
  have he2 : ((s.size : Int) == 0) = false := by simp; omega
  have he3 : decide ((32 : Int) < (s.size : Int)) = false := by simp; omega
  go_enter Tryz.func192, Tryz.ntmps192
  go_wp2_with (first | (go_at_call 204; refine (letter_c _ (s[0].toNat) rfl _).mono ?_; rintro e w' ⟨rfl, rfl⟩))
  go_loop [22] (fun i => ∃ n : Nat, n ≤ s.size ∧ i = .int .i64 n ∧ ∀ i, i < n → sign j (at' s i) = true) (fun i => s.size - (intOf i).toNat)
  case atStart => exact ⟨0, by omega, rfl, fun i hi => by omega⟩
  case round =>
    obtain ⟨n, hn, rfl, ha⟩ := hrel
    have HA : Hid (∀ i, i < n → sign j (at' s i) = true) := ha
    clear ha
    by_cases hlt : n < s.size
    · have E : Hid (at' s n = (s[n]'hlt).toNat) := at_get s n hlt
      go_wp2_with (first
        | (go_at_call 204; refine (letter_c _ (s[n].toNat) rfl _).mono ?_; rintro e w' ⟨rfl, rfl⟩)
        | (go_at_call 205; refine (digit_c _ (s[n].toNat) rfl _).mono ?_; rintro e w' ⟨rfl, rfl⟩))
      · have g : sign j s[n].toNat = true := sign_let (by assumption)
        go_round
        case rel =>
          refine ⟨n + 1, by omega, by go_num, fun i hi => ?_⟩
          by_cases c : i < n
          · exact HA.out i c
          · obtain rfl : i = n := by omega
            rw [E.out]
            exact g
        case measure => simp only [intOf]; omega
      · have g : sign j s[n].toNat = true := sign_dig (by assumption)
        go_round
        case rel =>
          refine ⟨n + 1, by omega, by go_num, fun i hi => ?_⟩
          by_cases c : i < n
          · exact HA.out i c
          · obtain rfl : i = n := by omega
            rw [E.out]
            exact g
        case measure => simp only [intOf]; omega
      · have g : sign j s[n].toNat = false := sign_none (by assumption) (by assumption) (by assumption)
        go_ret
        have e : word s j = false := word_bad hlt (by rw [E.out]; exact g)
        rw [e]
        exact ⟨rfl, rfl⟩
      · have g : sign j s[n].toNat = true := sign_joint (by assumption)
        go_round
        case rel =>
          refine ⟨n + 1, by omega, by go_num, fun i hi => ?_⟩
          by_cases c : i < n
          · exact HA.out i c
          · obtain rfl : i = n := by omega
            rw [E.out]
            exact g
        case measure => simp only [intOf]; omega
    · go_wp2
      go_ret
      have e : word s j = true := word_of h0 h (by rw [at_get s 0 h0]; exact hl) (fun i hi => HA.out i (by omega))
      rw [e]
      exact ⟨rfl, rfl⟩
theorem own_c (s : ByteArray) (hs : s.size ≤ 9223372036854775807) (j : Nat) (w : World) :
    Calls Tryz.prog 192 #[.string s, .int .u8 j] w fun r w' => r = .returned (.bool (word s j)) ∧ w' = w := by
  by_cases h0 : 0 < s.size
  · by_cases h : s.size ≤ 32
    · have e := at_get s 0 h0
      cases hl : let' s[0].toNat with
      | true => exact own_go s h0 h hl j w
      | false =>
        rw [word_not (by rw [e, hl]; simp)]
        exact own_first s h0 h hl j w
    · rw [word_not (by omega)]
      exact own_long s (by omega) hs j w
  · rw [word_not (by omega)]
    obtain rfl := size_empty (by omega : s.size = 0)
    exact own_empty j w

theorem tag_c (s : ByteArray) (hs : s.size ≤ 9223372036854775807) (w : World) :
    Calls Tryz.prog 199 #[.string s] w fun r w' => r = .returned (.bool (word s 45)) ∧ w' = w := by
  go_enter Tryz.func199, Tryz.ntmps199
  go_wp2_with (first | (go_at_call 192; refine (own_c s hs 45 _).mono ?_; rintro e w' ⟨rfl, rfl⟩))
  go_ret
  exact ⟨rfl, rfl⟩
end Go.Proofs.YtpaigpijaifeoaaGreatDoor.UWord

namespace Go.Proofs.YtpaigpijaifeoaaGreatDoor.SNm
open Go.RowKit Go.Proofs.YtpaigpijaifeoaaGreatDoor.UBase
set_option linter.unusedVariables false

theorem Name_c (s : ByteArray) (hs : s.size ≤ 9223372036854775807) (w : World) :
    Calls Tryz.prog 165 #[.string s] w fun r w' => r = .returned (.bool (UBase.word s 95)) ∧ w' = w := by
  have c1 := UWord.own_c s hs 95 w
  go_enter Tryz.func165, Tryz.ntmps165
  go_wp2_with (first | (go_at_call 192; refine c1.mono ?_; rintro e w' ⟨rfl, rfl⟩))
  go_ret
  exact ⟨rfl, rfl⟩
end Go.Proofs.YtpaigpijaifeoaaGreatDoor.SNm

namespace Go.Proofs.YtpaigpijaifeoaaGreatDoor.SFit
open Go.RowKit Go.Proofs.YtpaigpijaifeoaaGreatDoor.Base Go.Proofs.YtpaigpijaifeoaaGreatDoor.UBase Go.Proofs.YtpaigpijaifeoaaGreatDoor.UValid Go.Proofs.YtpaigpijaifeoaaGreatDoor.UOwn Go.Proofs.YtpaigpijaifeoaaGreatDoor.EPure
open Go.Proofs.YtpaigpijaifeoaaGreatDoor.XBase (four_box two_box frozen_box Rg)
set_option linter.unusedVariables false

/-- How many kids an Op has. -/
def kd (o : Int) : Int := if 1 ≤ o ∧ o ≤ 6 then 0 else if o = 7 ∨ o = 9 ∨ o = 10 ∨ o = 11 then 1 else if o = 8 ∨ (12 ≤ o ∧ o ≤ 30) then 2 else if o = 31 then 3 else -1
theorem ret_int {k : IntKind} {a b : Int} (h : a = b) : Ending.returned (.int k a) = .returned (.int k b) := by rw [h]
set_option maxRecDepth 20000 in
set_option maxHeartbeats 1600000 in
theorem kidsOf_c (o : Int) (h1 : -9223372036854775808 ≤ o) (h2 : o ≤ 9223372036854775807) (w : World) : Calls Tryz.prog 125 #[.int .i64 o] w fun e w' => e = .returned (.int .i64 (kd o)) ∧ w' = w := by
  go_enter Tryz.func125, Tryz.ntmps125
  go_wp2_with fail
  all_goals
    go_ret
    refine ⟨ret_int ?_, rfl⟩
    unfold kd
    simp_all
    try omega
theorem ne : ∀ s : ByteArray, s.toList.isEmpty = (s.size == 0) := by
  intro s
  rw [ByteArray.toList_eq]
  cases h : s.data.toList with
  | nil =>
    have : s.size = 0 := by rw [← ByteArray.size_data, ← Array.length_toList, h]; rfl
    simp [this]
  | cons a r =>
    have : s.size = r.length + 1 := by rw [← ByteArray.size_data, ← Array.length_toList, h]; rfl
    simp [this]
/-- Int and Str, as the Op asks for; of a text and a variable as a leaf may be. -/
def ft (lf : Int → Int → ByteArray → Bool) (o i : Int) (t : ByteArray) : Bool :=
  if o = 5 ∨ o = 6 then lf o i t
  else if o = 4 then decide (0 ≤ i) && (t.size == 0)
  else if o = 7 then (i == 0) && UBase.word t 95
  else if o = 9 then (decide (1 ≤ i) && decide (i ≤ 8)) && (t.size == 0)
  else (i == 0) && (t.size == 0)
/-- A function that tells which leaves may be. -/
abbrev lfv (k : Nat) : Value := .func (Fn.func k) #[] #[]
def Lf (k : Nat) (lf : Int → Int → ByteArray → Bool) : Prop := (∀ (args : Array Value) (w : World), Sem.run Tryz.prog (callFunc k args) w = .ok (.enter k args) w) ∧ ∀ (o i : Int) (t : ByteArray) (a : Option Addr) (n c : Nat) (w : World), (o = 5 ∨ o = 6) → t.size ≤ 140737488351232 →
  Calls Tryz.prog k #[.agg #[.int .i64 o, .int .i64 i, .string t, .slice a n c]] w fun e w' => e = .returned (.bool (lf o i t)) ∧ Below w.heap.size w w'
theorem ret_bool {a b : Bool} (h : a = b) : Ending.returned (.bool a) = .returned (.bool b) := by rw [h]
set_option maxRecDepth 20000 in
set_option maxHeartbeats 1600000 in
theorem fits_int {k : Nat} {lf : Int → Int → ByteArray → Bool} {i : Int} {t : ByteArray} {a : Option Addr} {n c : Nat} (w : World) :
    Calls Tryz.prog 126 #[.agg #[.int .i64 4, .int .i64 i, .string t, .slice a n c], lfv k] w fun e w' => e = .returned (.bool (ft lf 4 i t)) ∧ Below w.heap.size w w' := by
  have b0 : Below w.heap.size w (w.alloc (.cells #[.int .i64 4, .int .i64 i, .string t, .slice a n c] 44)) := (Below.refl _ w).alloc (Nat.le_refl _) _
  have hne := ne t
  have e : ft lf 4 i t = (decide (0 ≤ i) && (t.size == 0)) := rfl
  rw [e]
  obtain ⟨z, hz⟩ : ∃ z, (t.size == 0) = z := ⟨_, rfl⟩
  rw [hz] at hne ⊢
  clear e hz
  by_cases hi : 0 ≤ i
  · have d : decide ((0 : Int) ≤ i) = true := decide_eq_true hi
    rw [d, Bool.true_and]
    clear hi
    go_enter Tryz.func126, Tryz.ntmps126
    go_wp2_with fail
    go_ret
    exact ⟨ret_bool rfl, b0⟩
  · have d : decide ((0 : Int) ≤ i) = false := decide_eq_false hi
    rw [d, Bool.false_and]
    clear hi
    go_enter Tryz.func126, Tryz.ntmps126
    go_wp2_with fail
    go_ret
    exact ⟨rfl, b0⟩
set_option maxRecDepth 20000 in
set_option maxHeartbeats 1600000 in
theorem fits_else {k : Nat} {lf : Int → Int → ByteArray → Bool} {o i : Int} {t : ByteArray} {a : Option Addr} {n c : Nat} (h4 : o ≠ 4) (h5 : o ≠ 5) (h6 : o ≠ 6) (h7 : o ≠ 7) (h9 : o ≠ 9) (w : World) :
    Calls Tryz.prog 126 #[.agg #[.int .i64 o, .int .i64 i, .string t, .slice a n c], lfv k] w fun e w' => e = .returned (.bool (ft lf o i t)) ∧ Below w.heap.size w w' := by
  have b0 : Below w.heap.size w (w.alloc (.cells #[.int .i64 o, .int .i64 i, .string t, .slice a n c] 44)) := (Below.refl _ w).alloc (Nat.le_refl _) _
  have hne := ne t
  have e : ft lf o i t = ((i == 0) && (t.size == 0)) := by unfold ft; rw [if_neg (by omega), if_neg h4, if_neg h7, if_neg h9]
  rw [e]
  have e4 : (o == 4) = false := by simp [h4]
  have e5 : (o == 5) = false := by simp [h5]
  have e6 : (o == 6) = false := by simp [h6]
  have e7 : (o == 7) = false := by simp [h7]
  have e9 : (o == 9) = false := by simp [h9]
  obtain ⟨z, hz⟩ : ∃ z, (t.size == 0) = z := ⟨_, rfl⟩
  rw [hz] at hne ⊢
  clear e hz h4 h5 h6 h7 h9
  cases hi : (i == 0) with
  | true =>
    rw [Bool.true_and]
    go_enter Tryz.func126, Tryz.ntmps126
    go_wp2_with fail
    go_ret
    exact ⟨ret_bool rfl, b0⟩
  | false =>
    rw [Bool.false_and]
    go_enter Tryz.func126, Tryz.ntmps126
    go_wp2_with fail
    go_ret
    exact ⟨rfl, b0⟩
set_option maxRecDepth 20000 in
set_option maxHeartbeats 1600000 in
theorem fits_field {k : Nat} {lf : Int → Int → ByteArray → Bool} {i : Int} {t : ByteArray} {a : Option Addr} {n c : Nat} (ht : t.size ≤ 140737488351232) (w : World) :
    Calls Tryz.prog 126 #[.agg #[.int .i64 7, .int .i64 i, .string t, .slice a n c], lfv k] w fun e w' => e = .returned (.bool (ft lf 7 i t)) ∧ Below w.heap.size w w' := by
  have b0 : Below w.heap.size w (w.alloc (.cells #[.int .i64 7, .int .i64 i, .string t, .slice a n c] 44)) := (Below.refl _ w).alloc (Nat.le_refl _) _
  have e : ft lf 7 i t = ((i == 0) && UBase.word t 95) := rfl
  rw [e]
  have cT := fun W => SNm.Name_c t (by omega) W
  obtain ⟨z, hz⟩ : ∃ z, UBase.word t 95 = z := ⟨_, rfl⟩
  rw [hz] at cT ⊢
  clear e hz
  cases hi : (i == 0) with
  | true =>
    rw [Bool.true_and]
    go_enter Tryz.func126, Tryz.ntmps126
    go_wp2_with fail
    refine (cT _).mono ?_
    rintro e W1 ⟨rfl, rfl⟩
    go_wp2_with fail
    go_ret
    exact ⟨rfl, b0⟩
  | false =>
    rw [Bool.false_and]
    go_enter Tryz.func126, Tryz.ntmps126
    go_wp2_with fail
    go_ret
    exact ⟨rfl, b0⟩
set_option maxRecDepth 20000 in
set_option maxHeartbeats 1600000 in
theorem fits_call {k : Nat} {lf : Int → Int → ByteArray → Bool} {i : Int} {t : ByteArray} {a : Option Addr} {n c : Nat} (w : World) :
    Calls Tryz.prog 126 #[.agg #[.int .i64 9, .int .i64 i, .string t, .slice a n c], lfv k] w fun e w' => e = .returned (.bool (ft lf 9 i t)) ∧ Below w.heap.size w w' := by
  have b0 : Below w.heap.size w (w.alloc (.cells #[.int .i64 9, .int .i64 i, .string t, .slice a n c] 44)) := (Below.refl _ w).alloc (Nat.le_refl _) _
  have hne := ne t
  have e : ft lf 9 i t = ((decide (1 ≤ i) && decide (i ≤ 8)) && (t.size == 0)) := rfl
  rw [e]
  obtain ⟨z, hz⟩ : ∃ z, (t.size == 0) = z := ⟨_, rfl⟩
  rw [hz] at hne ⊢
  clear e hz
  by_cases h1 : 1 ≤ i
  · have d1 : decide ((1 : Int) ≤ i) = true := decide_eq_true h1
    rw [d1, Bool.true_and]
    by_cases h8 : i ≤ 8
    · have d8 : decide (i ≤ (8 : Int)) = true := decide_eq_true h8
      rw [d8, Bool.true_and]
      clear h1 h8
      go_enter Tryz.func126, Tryz.ntmps126
      go_wp2_with fail
      go_ret
      exact ⟨ret_bool rfl, b0⟩
    · have d8 : decide (i ≤ (8 : Int)) = false := decide_eq_false h8
      rw [d8, Bool.false_and]
      clear h1 h8
      go_enter Tryz.func126, Tryz.ntmps126
      go_wp2_with fail
      go_ret
      exact ⟨rfl, b0⟩
  · have d1 : decide ((1 : Int) ≤ i) = false := decide_eq_false h1
    rw [d1, Bool.false_and, Bool.false_and]
    clear h1
    go_enter Tryz.func126, Tryz.ntmps126
    go_wp2_with fail
    go_ret
    exact ⟨rfl, b0⟩
set_option maxRecDepth 20000 in
set_option maxHeartbeats 1600000 in
theorem fits_leaf {k : Nat} {lf : Int → Int → ByteArray → Bool} (hL : Lf k lf) {o i : Int} {t : ByteArray} {a : Option Addr} {n c : Nat} (h : o = 5 ∨ o = 6) (ht : t.size ≤ 140737488351232) (w : World) :
    Calls Tryz.prog 126 #[.agg #[.int .i64 o, .int .i64 i, .string t, .slice a n c], lfv k] w fun e w' => e = .returned (.bool (ft lf o i t)) ∧ Below w.heap.size w w' := by
  have b0 : Below w.heap.size w (w.alloc (.cells #[.int .i64 o, .int .i64 i, .string t, .slice a n c] 44)) := (Below.refl _ w).alloc (Nat.le_refl _) _
  have e : ft lf o i t = lf o i t := by unfold ft; rw [if_pos h]
  rw [e]
  have hE := hL.1
  have cL := hL.2 o i t a n c (w.alloc (.cells #[.int .i64 o, .int .i64 i, .string t, .slice a n c] 44)) h ht
  obtain ⟨z, hz⟩ : ∃ z, lf o i t = z := ⟨_, rfl⟩
  rw [hz] at cL ⊢
  clear e hz hL
  rcases h with rfl | rfl
  · go_enter Tryz.func126, Tryz.ntmps126
    go_wp2_with fail
    refine cL.mono ?_
    rintro e W1 ⟨rfl, b1⟩
    go_wp2_with fail
    go_ret
    exact ⟨rfl, nx b0 b1⟩
  · go_enter Tryz.func126, Tryz.ntmps126
    go_wp2_with fail
    refine cL.mono ?_
    rintro e W1 ⟨rfl, b1⟩
    go_wp2_with fail
    go_ret
    exact ⟨rfl, nx b0 b1⟩
theorem fits_c {k : Nat} {lf : Int → Int → ByteArray → Bool} (hL : Lf k lf) {o i : Int} {t : ByteArray} {a : Option Addr} {n c : Nat} (ht : t.size ≤ 140737488351232) (w : World) :
    Calls Tryz.prog 126 #[.agg #[.int .i64 o, .int .i64 i, .string t, .slice a n c], lfv k] w fun e w' => e = .returned (.bool (ft lf o i t)) ∧ Below w.heap.size w w' := by
  by_cases h4 : o = 4
  · subst h4; exact fits_int w
  by_cases h5 : o = 5 ∨ o = 6
  · exact fits_leaf hL h5 ht w
  by_cases h7 : o = 7
  · subst h7; exact fits_field ht w
  by_cases h9 : o = 9
  · subst h9; exact fits_call w
  exact fits_else h4 (by omega) (by omega) h7 h9 w
end Go.Proofs.YtpaigpijaifeoaaGreatDoor.SFit

namespace Go.Proofs.YtpaigpijaifeoaaGreatDoor.JPure
open Go.RowKit Go.Proofs.YtpaigpijaifeoaaGreatDoor.Base Go.Proofs.YtpaigpijaifeoaaGreatDoor.EPure Go.Proofs.YtpaigpijaifeoaaGreatDoor.VPure
open Go.Proofs.YtpaigpijaifeoaaGreatDoor.SFit (kd)
set_option linter.unusedVariables false

def evL (ρ : Int → Option C) : List Ex → List Ans
  | [] => []
  | .mk o i s l :: t => node (fun _ => ρ i) o i s (evL ρ l) :: evL ρ t
/-- What an expression comes to. -/
def ev (ρ : Int → Option C) (x : Ex) : Ans := node (fun _ => ρ x.i) x.o x.i x.s (evL ρ x.l)
theorem evL_cons (ρ : Int → Option C) (x : Ex) (t : List Ex) : evL ρ (x :: t) = ev ρ x :: evL ρ t := by
  obtain ⟨o, i, s, l⟩ := x
  rw [evL]
  rfl
theorem evL_get (ρ : Int → Option C) : ∀ (l : List Ex) (j : Nat) (h : j < l.length), (evL ρ l).getD j (.error 0) = ev ρ l[j]
  | [], j, h => absurd h (by simp)
  | x :: t, 0, h => by rw [evL_cons]; rfl
  | x :: t, j + 1, h => by
    rw [evL_cons]
    have := evL_get ρ t j (by simpa using h)
    simpa using this
theorem evL_wf {ρ : Int → Option C} (hρ : ∀ (j : Int) c, ρ j = some c → wf c) : ∀ (l : List Ex) (q : Nat) (c : C), (evL ρ l).getD q (.error 0) = .ok c → wf c
  | [], q, c, h => by simp [evL] at h
  | .mk o i s l :: t, 0, c, h => by
    rw [evL] at h
    exact node_wf (fun _ c h => hρ i c h) (evL_wf hρ l) h
  | .mk o i s l :: t, q + 1, c, h => by
    rw [evL] at h
    exact evL_wf hρ t q c (by simpa using h)
theorem ev_wf {ρ : Int → Option C} (hρ : ∀ (j : Int) c, ρ j = some c → wf c) (x : Ex) (c : C) (h : ev ρ x = .ok c) : wf c := node_wf (fun _ c h => hρ x.i c h) (evL_wf hρ x.l) h
/-- As many kids as the operation asks for, all the way down. -/
def gdL : List Ex → Prop
  | [] => True
  | .mk o i s l :: t => ((l.length : Int) = kd o ∧ True ∧ gdL l) ∧ gdL t
theorem gdL_cons {x : Ex} {t : List Ex} : gdL (x :: t) ↔ ((x.l.length : Int) = kd x.o ∧ True ∧ gdL x.l) ∧ gdL t := by
  obtain ⟨o, i, s, l⟩ := x
  rw [gdL]
  exact Iff.rfl
def gd (x : Ex) : Prop := (x.l.length : Int) = kd x.o ∧ True ∧ gdL x.l
theorem gdL_get : ∀ {l : List Ex}, gdL l → ∀ {j : Nat} (h : j < l.length), gd l[j]
  | [], _, _, h => absurd h (by simp)
  | x :: t, hg, 0, _ => (gdL_cons.1 hg).1
  | x :: t, hg, j + 1, h => gdL_get (gdL_cons.1 hg).2 (j := j) (by simpa using h)
end Go.Proofs.YtpaigpijaifeoaaGreatDoor.JPure

namespace Go.Proofs.YtpaigpijaifeoaaGreatDoor.JGe
open Go.RowKit Go.Proofs.YtpaigpijaifeoaaGreatDoor.Base Go.Proofs.YtpaigpijaifeoaaGreatDoor.EPure Go.Proofs.YtpaigpijaifeoaaGreatDoor.JPure Go.Proofs.YtpaigpijaifeoaaGreatDoor.JGd
open Go.Proofs.YtpaigpijaifeoaaGreatDoor.VPure hiding ev evL evL_cons evL_get ev_wf evL_wf
set_option linter.unusedVariables false

theorem fm_of {k i : Int} {b : Bool} {s : ByteArray} (hs : Pure.tg s = true) (hp : Pure.pu k b i s 0 0 = true) (h6 : k ≠ 6) : Fault.fm (.mk k b i s [] []) = true := by
  unfold Fault.fm
  simp only [C.k, C.b, C.i, C.s, C.n, C.l, List.length_nil]
  rw [hp, hs]
  simp [h6]
theorem tg_e : Pure.tg ⟨#[]⟩ = true := tg_low (L := []) (by simp) (by simp)
theorem gd_int {i : Int} (h : rg i) : Gd (intC i) := Gd.one (by decide) (fm_of tg_e (by simp [Pure.pu]) (by decide)) h
theorem gd_boo (b : Bool) : Gd (booC b) := Gd.one (by decide) (fm_of tg_e (by simp [Pure.pu]) (by decide)) (by constructor <;> decide)
theorem gd_nul : Gd nulC := Gd.one (by decide) (fm_of tg_e (by simp [Pure.pu]) (by decide)) (by constructor <;> decide)
theorem gd_str {s : ByteArray} (h : Pure.tg s = true) : Gd (strC s) := Gd.one (by decide) (fm_of h (by simp [Pure.pu]) (by decide)) (by constructor <;> decide)
theorem gd_tg {c : C} (h : Gd c) : Pure.tg c.s = true := by
  have hf := h.self.2.1
  unfold Fault.fm at hf
  simp only [Bool.and_eq_true] at hf
  exact hf.1.2
theorem tg_size {s : ByteArray} (h : Pure.tg s = true) : s.size ≤ 4096 := by
  unfold Pure.tg at h
  simp only [Bool.and_eq_true, decide_eq_true_eq] at h
  exact h.1
theorem tg_bad {s : ByteArray} (h : Pure.tg s = true) : UBase.bad s 0 = none := by
  unfold Pure.tg UBase.verr at h
  by_cases e : UBase.bad s 0 = none
  · exact e
  · rw [if_neg e] at h; simp at h
theorem tg_join {x y : ByteArray} (hx : Pure.tg x = true) (hy : Pure.tg y = true) (hl : x.size + y.size ≤ 4096) : Pure.tg (x ++ y) = true := by
  have e := UJn.verr_join (t := y) (tg_bad hx)
  have ey : UBase.verr y = 0 := by unfold UBase.verr; rw [if_pos (tg_bad hy)]
  unfold Pure.tg
  rw [e, ey, ByteArray.size_append]
  simp [hl]
theorem txt_tg {c : C} {x : ByteArray} (h : Gd c) (hx : txt c = .ok x) : Pure.tg x = true := by
  have hs := gd_tg h
  have hi := h.self.2.2.1
  unfold txt at hx
  by_cases he : TextKey.te c = 0
  · rw [if_pos he] at hx
    injection hx with hx
    rw [← hx]
    obtain ⟨k, b, i, s, n, l⟩ := c
    simp only [C.s, C.i] at hs hi
    show Pure.tg (if k = 1 then ⟨#[]⟩ else if k = 2 then (if b = true then ⟨#[116, 114, 117, 101]⟩ else ⟨#[102, 97, 108, 115, 101]⟩) else if k = 3 then ⟨(Lib.itoa i).toArray⟩ else if k = 4 then s else ⟨#[]⟩) = true
    by_cases h1 : k = 1
    · rw [if_pos h1]; exact tg_e
    rw [if_neg h1]
    by_cases h2 : k = 2
    · rw [if_pos h2]
      cases b
      · exact tg_low (L := [102, 97, 108, 115, 101]) (by decide) (by decide)
      · exact tg_low (L := [116, 114, 117, 101]) (by decide) (by decide)
    rw [if_neg h2]
    by_cases h3 : k = 3
    · rw [if_pos h3]
      exact tg_low (itoa_low i) (by have := Lib.itoa_length_le i hi.1 hi.2; omega)
    rw [if_neg h3]
    by_cases h4 : k = 4
    · rw [if_pos h4]; exact hs
    rw [if_neg h4]
    exact tg_e
  · rw [if_neg he] at hx; cases hx
theorem mapI_gd {x : Except Nat Int} {c : C} (hr : ∀ i, x = .ok i → rg i) (h : mapI x = .ok c) : Gd c := by
  cases x with
  | error e => cases h
  | ok y => injection h with h; rw [← h]; exact gd_int (hr y rfl)
theorem numb_gd {o : Int} {a b c : C} (ha : rg a.i) (h : numb o a b = .ok c) : Gd c :=
  mapI_gd (fun i hi => by rw [VRs.tw_ok hi]; exact VRs.wh_rng ha) h
theorem pr2_gd {o : Int} {a b c : C} (ha : Gd a) (hb : o = 17 → Gd b) (h : pr2 o a b = .ok c) : Gd c := by
  have hbo : ∀ {B : Bool}, (Except.ok (booC B) : Ans) = .ok c → Gd c := fun h => by injection h with h; rw [← h]; exact gd_boo _
  have hoL : ∀ {x : Except Nat Int} {f : Int → Bool}, (bnd x fun c => .ok (booC (f c))) = (.ok c : Ans) → Gd c := fun {x f} h => by
    cases x with
    | error e => cases h
    | ok y => exact hbo h
  have hsf := ha.self
  unfold pr2 at h
  by_cases q : o = 17
  · rw [if_pos q] at h
    have hb := hb q
    unfold cat at h
    have ta : ∀ x, txt a = .ok x → Pure.tg x = true := fun x hx => txt_tg ha hx
    have tb : ∀ x, txt b = .ok x → Pure.tg x = true := fun x hx => txt_tg hb hx
    revert h ta tb
    generalize txt a = x
    generalize txt b = y
    intro h ta tb
    cases x with
    | error e => cases h
    | ok x =>
      cases y with
      | error e => cases h
      | ok y =>
        simp only [bnd] at h
        by_cases q : 4096 < x.size + y.size
        · rw [if_pos q] at h; cases h
        · rw [if_neg q] at h; injection h with h; rw [← h]; exact gd_str (tg_join (ta x rfl) (tb y rfl) (by omega))
  rw [if_neg q] at h
  clear q
  by_cases q : o = 10
  · rw [if_pos q] at h
    exact numb_gd (by constructor <;> decide) h
  rw [if_neg q] at h
  clear q
  by_cases q : o = 23
  · rw [if_pos q] at h
    exact hoL h
  rw [if_neg q] at h
  clear q
  by_cases q : o = 24
  · rw [if_pos q] at h
    exact hoL h
  rw [if_neg q] at h
  clear q
  by_cases q : o = 25
  · rw [if_pos q] at h
    exact hoL h
  rw [if_neg q] at h
  clear q
  by_cases q : o = 26
  · rw [if_pos q] at h
    exact hoL h
  rw [if_neg q] at h
  clear q
  by_cases q : o = 27
  · rw [if_pos q] at h
    exact hbo h
  rw [if_neg q] at h
  clear q
  by_cases q : o = 28
  · rw [if_pos q] at h
    exact hbo h
  rw [if_neg q] at h
  clear q
  by_cases q : o = 7 ∨ o = 8
  · rw [if_pos q] at h
    unfold VPure.prt prtR at h
    by_cases q5 : a.k = 5
    · rw [if_pos q5] at h
      by_cases q3 : b.k = 3
      · rw [if_pos q3] at h
        by_cases qi : b.i < 0 ∨ (a.l.length : Int) ≤ b.i
        · rw [if_pos qi] at h; cases h
        · rw [if_neg qi] at h; injection h with h; rw [← h]; exact ha.sub (by omega)
      · rw [if_neg q3] at h; cases h
    · rw [if_neg q5] at h
      by_cases q6 : a.k = 6 ∧ b.k = 4
      · rw [if_pos q6] at h
        cases hf : Part.fi a.n b.s with
        | none => rw [hf] at h; cases h
        | some q => rw [hf] at h; injection h with h; rw [← h]; exact ha.sub (by have := Part.fi_lt hf; have := GWf.fm_six hsf.2.1 q6.1; omega)
      · rw [if_neg q6] at h; cases h
  rw [if_neg q] at h
  clear q
  by_cases q : o = 9
  · rw [if_pos q] at h
    unfold cal at h
    by_cases q1 : b.i = 1
    · rw [if_pos q1] at h
      refine mapI_gd (fun i hi => ?_) h
      unfold lenI at hi
      by_cases q4 : a.k = 4
      · rw [if_pos q4] at hi; injection hi with hi; have := tg_size (gd_tg ha); constructor <;> omega
      · rw [if_neg q4] at hi
        by_cases q5 : a.k = 5 ∨ a.k = 6
        · rw [if_pos q5] at hi; injection hi with hi; have := hsf.2.2.2; constructor <;> omega
        · rw [if_neg q5] at hi; cases hi
    rw [if_neg q1] at h
    by_cases q2 : b.i = 2
    · rw [if_pos q2] at h
      have ta : ∀ x, txt a = .ok x → Pure.tg x = true := fun x hx => txt_tg ha hx
      revert h ta
      generalize txt a = x
      intro h ta
      cases x with
      | error e => cases h
      | ok x => injection h with h; rw [← h]; exact gd_str (ta x rfl)
    · rw [if_neg q2] at h
      refine mapI_gd (fun i hi => ?_) h
      unfold tunI at hi
      by_cases q3 : a.k = 3
      · rw [if_pos q3] at hi; injection hi with hi; rw [← hi]; exact VTo.tun_rng _ _
      · rw [if_neg q3] at hi; cases hi
  rw [if_neg q] at h
  clear q
  by_cases q : o = 11
  · rw [if_pos q] at h
    unfold notT at h
    by_cases q2 : a.k = 2
    · rw [if_pos q2] at h; exact hbo h
    · rw [if_neg q2] at h; cases h
  rw [if_neg q] at h
  clear q
  by_cases q : o = 20 ∨ o = 21 ∨ o = 22
  · rw [if_pos q] at h
    exact mapI_gd (fun i hi => by rw [VPm.tx_ok hi]; exact VBi.bit_rng _ _ _) h
  rw [if_neg q] at h
  clear q
  exact numb_gd hsf.2.2.1 h
theorem node_gd {ρ : ByteArray → Option C} (hρ : ∀ s c, ρ s = some c → Gd c) {o i : Int} {s : ByteArray} {p : List Ans} (hft : o = 5 → Pure.tg s = true) (hi : rg i) (hp : ∀ q c, p.getD q (.error 0) = .ok c → Gd c) {c : C} (h : node ρ o i s p = .ok c) : Gd c := by
  have hbo : ∀ {B : Bool}, (Except.ok (booC B) : Ans) = .ok c → Gd c := fun h => by injection h with h; rw [← h]; exact gd_boo _
  unfold node at h
  by_cases q : o = 1
  · rw [if_pos q] at h
    injection h with h; rw [← h]; exact gd_nul
  rw [if_neg q] at h
  clear q
  by_cases q : o = 2 ∨ o = 3
  · rw [if_pos q] at h
    exact hbo h
  rw [if_neg q] at h
  clear q
  by_cases q : o = 4
  · rw [if_pos q] at h
    injection h with h; rw [← h]; exact gd_int hi
  rw [if_neg q] at h
  clear q
  by_cases q : o = 5
  · rw [if_pos q] at h
    injection h with h
    rw [← h]
    subst q
    refine gd_str ?_
    exact hft rfl
  rw [if_neg q] at h
  clear q
  by_cases q : o = 6
  · rw [if_pos q] at h
    cases e : ρ s with
    | none => rw [e] at h; cases h
    | some c' => rw [e] at h; injection h with h; rw [← h]; exact hρ _ _ e
  rw [if_neg q] at h
  clear q
  by_cases q : o = 29 ∨ o = 30
  · rw [if_pos q] at h
    revert h
    generalize bnd (p.getD 0 (.error 0)) isT = x
    generalize bnd (p.getD 1 (.error 0)) isT = y
    intro h
    cases x with
    | error e => cases h
    | ok b =>
      simp only [bnd] at h
      by_cases q : b = decide (o = 30)
      · rw [if_pos q] at h; exact hbo h
      · rw [if_neg q] at h
        cases y with
        | error e => cases h
        | ok b => exact hbo h
  rw [if_neg q] at h
  clear q
  by_cases q : o = 31
  · rw [if_pos q] at h
    revert h
    generalize bnd (p.getD 0 (.error 0)) isT = x
    intro h
    cases x with
    | error e => cases h
    | ok b =>
      simp only [bnd] at h
      by_cases q : b = true
      · rw [if_pos q] at h; exact hp _ _ h
      · rw [if_neg q] at h; exact hp _ _ h
  rw [if_neg q] at h
  clear q
  cases hx : p.getD 0 (.error 0) with
  | error e => rw [hx] at h; cases h
  | ok a =>
    rw [hx] at h
    have ha := hp _ _ hx
    simp only [bnd] at h
    have h17 : ∀ b, o = 17 → snd2 o i s p = .ok b → Gd b := fun b e hb => by subst e; exact hp 1 b hb
    revert h h17
    generalize snd2 o i s p = y
    intro h h17
    cases y with
    | error e => cases h
    | ok b => exact pr2_gd ha (fun e => h17 b e rfl) h
/-- Every integer of it is one, every text of it may be. -/
def xrL : List Ex → Prop
  | [] => True
  | .mk o i s l :: t => (rg i ∧ (o = 5 → Pure.tg s = true) ∧ xrL l) ∧ xrL t
theorem evL_gd {ρ : Int → Option C} (hρ : ∀ (j : Int) c, ρ j = some c → Gd c) : ∀ (l : List Ex) (hx : xrL l) (q : Nat) (c : C), (evL ρ l).getD q (.error 0) = .ok c → Gd c
  | [], _, q, c, h => by rw [evL, List.getD_nil] at h; cases h
  | .mk o i s l :: t, hx, 0, c, h => by
    rw [evL, List.getD_cons_zero] at h
    rw [xrL] at hx
    exact node_gd (fun _ c h => hρ i c h) hx.1.2.1 hx.1.1 (evL_gd hρ l hx.1.2.2) h
  | .mk o i s l :: t, hx, q + 1, c, h => by
    rw [evL, List.getD_cons_succ] at h
    rw [xrL] at hx
    exact evL_gd hρ t hx.2 q c h
def xr (x : Ex) : Prop := rg x.i ∧ (x.o = 5 → Pure.tg x.s = true) ∧ xrL x.l
theorem ev_gd {ρ : Int → Option C} (hρ : ∀ (j : Int) c, ρ j = some c → Gd c) {x : Ex} (hx : xr x) {c : C} (h : ev ρ x = .ok c) : Gd c := node_gd (fun _ c h => hρ x.i c h) hx.2.1 hx.1 (evL_gd hρ x.l hx.2.2) h
theorem Gd.wf {c : C} (h : Gd c) : wf c := GWf.code_wf h.1
end Go.Proofs.YtpaigpijaifeoaaGreatDoor.JGe

namespace Go.Proofs.YtpaigpijaifeoaaGreatDoor.MGd
open Go.Proofs.YtpaigpijaifeoaaGreatDoor.Base Go.Proofs.YtpaigpijaifeoaaGreatDoor.VPure Go.Proofs.YtpaigpijaifeoaaGreatDoor.MPl Go.Proofs.YtpaigpijaifeoaaGreatDoor.JGd Go.Proofs.YtpaigpijaifeoaaGreatDoor.JGe
open Go.Proofs.YtpaigpijaifeoaaGreatDoor.CPu (Ins nd hnm fmd ijp)
open Go.Proofs.YtpaigpijaifeoaaGreatDoor.MHt (St)
set_option linter.unusedVariables false

theorem all_snoc {q : List C} {c : C} (hq : ∀ d ∈ q, Gd d) (hc : Gd c) : ∀ d ∈ q ++ [c], Gd d := fun d hd => by
  rcases List.mem_append.1 hd with h | h
  · exact hq d h
  · rw [List.mem_singleton.1 h]; exact hc
theorem all_front {q : List C} (hq : ∀ d ∈ q, Gd d) : ∀ d ∈ q.dropLast, Gd d := fun d hd => hq d ((List.dropLast_sublist _).subset hd)
theorem all_last {q : List C} (hq : ∀ d ∈ q, Gd d) (hn : 1 ≤ q.length) : Gd (q.getLastD zerC) := by
  obtain ⟨r, c, rfl⟩ := snoc_of hn
  rw [last_snoc]
  exact hq c (by simp)
theorem dop_gd {T : List ByteArray} {S : List C} {o a : Int} {p p' : List C} (h1 : 1 ≤ o) (h2 : o ≤ 29) (hnm' : hnm T.length S.length o a = true) (hn : nd o ≤ p.length) (ha : rg a) (hT : ∀ s ∈ T, Pure.tg s = true) (hS : ∀ c ∈ S, Gd c) (hp : ∀ c ∈ p, Gd c) (h : dop T S o a p = .ok p') : ∀ c ∈ p', Gd c := by
  unfold dop at h
  split at h
  · cases h; exact all_snoc hp gd_nul
  split at h
  · cases h; exact all_snoc hp (gd_boo _)
  split at h
  · cases h; exact all_snoc hp (gd_int ha)
  split at h
  · next e =>
    subst e
    cases h
    have hk : 0 ≤ a ∧ a < T.length := by simpa [hnm] using hnm'
    have hk2 : a.toNat < T.length := by omega
    refine all_snoc hp (gd_str ?_)
    rw [List.getD_eq_getElem?_getD, List.getElem?_eq_getElem hk2]
    exact hT _ (List.getElem_mem _)
  split at h
  · next e =>
    subst e
    cases h
    have hk : 0 ≤ a ∧ a < S.length := by simpa [hnm] using hnm'
    have hk2 : a.toNat < S.length := by omega
    refine all_snoc hp ?_
    rw [List.getD_eq_getElem?_getD, List.getElem?_eq_getElem hk2]
    exact hS _ (List.getElem_mem _)
  split at h
  · split at h
    · cases h; exact hp
    · cases h
  next e1 e2 e3 e4 e5 e6 =>
    cases e : pr2 o ((sec T o a p).2.getLastD zerC) (sec T o a p).1 with
    | error n => rw [e] at h; cases h
    | ok v =>
      rw [e] at h
      have h : (Except.ok ((sec T o a p).2.dropLast ++ [v]) : Except Nat (List C)) = .ok p' := h
      cases h
      by_cases hs : o = 7 ∨ o = 9 ∨ o = 10 ∨ o = 11
      · have hnd : nd o = 1 := by rcases hs with rfl | rfl | rfl | rfl <;> decide
        have hse : (sec T o a p).2 = p := by
          unfold sec
          rcases hs with rfl | rfl | rfl | rfl <;> rfl
        rw [hse] at e ⊢
        exact all_snoc (all_front hp) (pr2_gd (all_last hp (by omega)) (fun h17 => by omega) e)
      · have hnd : nd o = 2 := by
          have a1 : decide (o ≤ 6) = false := by simp; omega
          have a2 : (o == 33) = false := by simp; omega
          have a3 : ((o == 8) || (decide (12 ≤ o) && decide (o ≤ 28))) = true := by
            by_cases h8 : o = 8
            · subst h8; decide
            · have b1 : decide (12 ≤ o) = true := by simp; omega
              have b2 : decide (o ≤ 28) = true := by simp; omega
              simp [b1, b2]
          unfold nd
          rw [a1, a2, a3]
          rfl
        have hse : sec T o a p = (p.getLastD zerC, p.dropLast) := by
          unfold sec
          rw [if_neg (by omega), if_neg (by omega), if_neg (by omega)]
        rw [hse] at e ⊢
        exact all_snoc (all_front (all_front hp)) (pr2_gd (all_last (all_front hp) (by simp; omega)) (fun _ => all_last hp (by omega)) e)
theorem mrun_gd {L : List Ins} {T : List ByteArray} {S : List C} {H : Nat → Int} (hst : ∀ j (h : j < L.length), St L.length T.length S.length H j L[j]) (h1 : H L.length = 1) (hOk : ∀ x ∈ L, rg x.2) (hT : ∀ s ∈ T, Pure.tg s = true) (hS : ∀ c ∈ S, Gd c) : ∀ (f i : Nat) (p : List C), L.length ≤ i + f → i ≤ L.length → (p.length : Int) = H i → (∀ c ∈ p, Gd c) → ∀ r, mrun L T S f i p = .ok r → Gd r
  | 0, i, p, hf, hi, hl, hp, r, h => by
    rw [mrun] at h
    cases h
    have : i = L.length := by omega
    subst this
    exact all_last hp (by omega)
  | f + 1, i, p, hf, hi, hl, hp, r, h => by
    rw [mrun] at h
    by_cases hlt : i < L.length
    · rw [List.getElem?_eq_getElem hlt] at h
      have hx := hst i hlt
      have hox := hOk L[i] (List.getElem_mem _)
      generalize L[i] = x at *
      obtain ⟨o, a⟩ := x
      dsimp only at h
      have hnd : nd o ≤ p.length := by rw [hl]; exact hx.nd
      cases e : ins T S i (o, a) p with
      | error n => rw [e] at h; cases h
      | ok v =>
        rw [e] at h
        have h : mrun L T S f v.1 v.2 = .ok r := h
        have hfr : 1 ≤ o ∧ o ≤ 33 := by
          have hfm := hx.fm
          by_cases hr : 1 ≤ o ∧ o ≤ 33
          · exact hr
          · have b : ∀ k : Int, 1 ≤ k → k ≤ 33 → (o == k) = false := fun k h1 h2 => by simp; omega
            have b1 : (decide (1 ≤ o) && decide (o ≤ 33)) = false := by simp; omega
            simp [fmd, b, b1] at hfm
        unfold ins at e
        dsimp only at e
        split at e
        · next ho =>
          have hj := hx.jp (by rcases ho with rfl | rfl <;> rfl)
          obtain ⟨hb1, hb2⟩ := hx.both ho
          have hn1 : nd o = 1 := by rcases ho with rfl | rfl <;> decide
          dsimp only at hj hb1 hb2
          split at e
          · split at e
            · cases e
              exact mrun_gd hst h1 hOk hT hS f _ _ (by dsimp only; omega) (by dsimp only; omega) (by rw [hb1]; exact hl) hp r h
            · cases e
              exact mrun_gd hst h1 hOk hT hS f _ _ (by dsimp only; omega) (by dsimp only; omega) (by rw [hb2]; simp; omega) (all_front hp) r h
          · cases e
        · split at e
          · next ho =>
            subst ho
            have hj := hx.jp rfl
            obtain ⟨hb1, hb2⟩ := hx.els rfl
            have hn1 : nd 32 = 1 := by decide
            dsimp only at hj hb1 hb2
            split at e
            · cases e
              cases hb : (p.getLastD zerC).b with
              | true =>
                rw [hb] at h
                exact mrun_gd hst h1 hOk hT hS f (i + 1) p.dropLast (by omega) (by omega) (by rw [hb2]; simp; omega) (all_front hp) r h
              | false =>
                rw [hb] at h
                exact mrun_gd hst h1 hOk hT hS f a.toNat p.dropLast (by omega) (by omega) (by rw [hb1]; simp; omega) (all_front hp) r h
            · cases e
          · split at e
            · next ho =>
              subst ho
              have hj := hx.jp rfl
              have hb1 := hx.jump rfl
              dsimp only at hj hb1
              cases e
              exact mrun_gd hst h1 hOk hT hS f _ _ (by dsimp only; omega) (by dsimp only; omega) (by rw [hb1]; exact hl) hp r h
            · next n1 n2 n3 =>
              have hij : ijp o = false := by simp [ijp]; omega
              have hnx : H (i + 1) = H i - nd o + 1 := hx.next hij
              cases e2 : dop T S o a p with
              | error n => rw [e2] at e; cases e
              | ok p' =>
                rw [e2] at e
                have e : (Except.ok (i + 1, p') : Except Nat (Nat × List C)) = .ok v := e
                cases e
                exact mrun_gd hst h1 hOk hT hS f _ _ (by dsimp only; omega) (by dsimp only; omega) (by rw [hnx, dop_len hfr.1 (by omega) hnd e2, hl]) (dop_gd hfr.1 (by omega) hx.nm hnd hox hT hS hp e2) r h
    · rw [List.getElem?_eq_none (by omega)] at h
      cases h
      have : i = L.length := by omega
      subst this
      exact all_last hp (by omega)
end Go.Proofs.YtpaigpijaifeoaaGreatDoor.MGd

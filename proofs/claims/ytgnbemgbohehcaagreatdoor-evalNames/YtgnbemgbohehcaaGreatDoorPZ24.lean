import Derived.BigQuiet
import Derived.Deep.RegionWith
import Derived.Test.YtgnbemgbohehcaaGreatDoorPZ06
import Derived.Test.YtgnbemgbohehcaaGreatDoorPZ14
import Derived.Test.YtgnbemgbohehcaaGreatDoorPZ19
import Derived.Test.YtgnbemgbohehcaaGreatDoorPZ22
import Derived.Test.YtgnbemgbohehcaaGreatDoorPZ23
namespace Go.Proofs.YtgnbemgbohehcaaGreatDoor.PFit
open Go.RowKit Go.Proofs.YtgnbemgbohehcaaGreatDoor.Base Go.Proofs.YtgnbemgbohehcaaGreatDoor.UBase Go.Proofs.YtgnbemgbohehcaaGreatDoor.UValid Go.Proofs.YtgnbemgbohehcaaGreatDoor.UOwn Go.Proofs.YtgnbemgbohehcaaGreatDoor.EPure Go.Proofs.YtgnbemgbohehcaaGreatDoor.ENd
open Go.Proofs.YtgnbemgbohehcaaGreatDoor.XBase (four_box two_box frozen_box Rg)
set_option linter.unusedVariables false
/-- A text that may be. -/
def tg (s : ByteArray) : Bool := decide (s.size ≤ 4096) && (verr s == 0)
theorem iter_below (w : World) (s : ByteArray) (p : Nat) : Below w.heap.size w (w.iter s p) := (Below.refl _ w).alloc (Nat.le_refl _) _
theorem verr_cases (s : ByteArray) : verr s = 0 ∨ verr s = 300 := by
  cases h : bad s 0 with
  | none => exact .inl (verr_none h).2
  | some i => exact .inr (verr_some h).2
theorem tmb_c (s : ByteArray) (hs : s.size ≤ 140737488351232) (w : World) :
    Calls Tryz.prog 131 #[.string s] w fun r w' => r = .returned (.bool (tg s)) ∧ Below w.heap.size w w' := by
  have c71 := valid_c s (by omega) w
  by_cases h : s.size ≤ 4096
  · have e : tg s = (verr s == 0) := by simp [tg, h]
    rw [e]
    have hv := verr_cases s
    generalize verr s = x at *
    generalize vat s = y at *
    have h' : decide ((4096 : Int) < (s.size : Int)) = false := decide_eq_false (by omega)
    clear e
    rcases hv with rfl | rfl
    · go_enter Tryz.func131, Tryz.ntmps131
      go_wp2_with (first | (go_at_call 172; refine c71.mono ?_; rintro e w' ⟨rfl, p, rfl⟩))
      go_ret
      exact ⟨rfl, iter_below _ _ _⟩
    · go_enter Tryz.func131, Tryz.ntmps131
      go_wp2_with (first | (go_at_call 172; refine c71.mono ?_; rintro e w' ⟨rfl, p, rfl⟩))
      go_ret
      exact ⟨rfl, iter_below _ _ _⟩
  · have e : tg s = false := by simp [tg, h]
    rw [e]
    have h' : decide ((4096 : Int) < (s.size : Int)) = true := decide_eq_true (by omega)
    clear c71 e
    go_enter Tryz.func131, Tryz.ntmps131
    go_wp2_with fail
    go_ret
    exact ⟨rfl, Below.refl _ _⟩
/-- No byte below 32 but LF. -/
def wrt (s : ByteArray) : Bool := decide (∀ i, i < s.size → 32 ≤ at' s i ∨ at' s i = 10)
def tx (s : ByteArray) : Bool := tg s && wrt s
set_option maxRecDepth 20000 in
set_option maxHeartbeats 1600000 in
theorem isText_c (s : ByteArray) (hs : s.size ≤ 140737488351232) (w : World) : Calls Tryz.prog 137 #[.string s] w fun e w' => e = .returned (.bool (tx s)) ∧ Below w.heap.size w w' := by
  have cT := tmb_c s hs w
  unfold tx
  cases hg : tg s with
  | false =>
    rw [hg] at cT
    rw [Bool.false_and]
    clear hg
    go_enter Tryz.func137, Tryz.ntmps137
    go_wp2_with fail
    refine cT.mono ?_
    rintro e W1 ⟨rfl, b1⟩
    go_wp2_with fail
    go_ret
    exact ⟨rfl, b1⟩
  | true =>
    rw [hg] at cT
    rw [Bool.true_and]
    obtain ⟨T, hT⟩ : ∃ T, wrt s = T := ⟨_, rfl⟩
    rw [hT]
    have HT : Hid (wrt s = T) := hT
    clear hg hT
    go_enter Tryz.func137, Tryz.ntmps137
    go_wp2_with fail
    refine cT.mono ?_
    rintro e W1 ⟨rfl, b1⟩
    clear cT
    go_wp2_with fail
    go_loopw [9] (fun v wr => ∃ i : Nat, v = .int .i64 i ∧ i ≤ s.size ∧ wr = W1 ∧ ∀ j, j < i → 32 ≤ at' s j ∨ at' s j = 10) (fun v _ => s.size - (intOf v).toNat)
    case atStart => exact ⟨0, rfl, by omega, rfl, fun j h => by omega⟩
    case round =>
      obtain ⟨i, rfl, hi, hwr, hall⟩ := hrel
      subst hwr
      have HA : Hid (∀ j, j < i → 32 ≤ at' s j ∨ at' s j = 10) := hall
      clear hall
      by_cases hlt : i < s.size
      · have d0 : decide ((i : Int) < (s.size : Int)) = true := by simp; omega
        have hb := at_get s i hlt
        have HAT : Hid (at' s i = (s[i]'hlt).toNat) := hb
        obtain ⟨y, hy⟩ : ∃ y, (s[i]'hlt).toNat = y := ⟨_, rfl⟩
        have HY : Hid ((s[i]'hlt).toNat = y) := hy
        clear hb
        by_cases h32 : y < 32
        · have d1 : decide ((y : Int) < 32) = true := by simp; omega
          by_cases h10 : y = 10
          · have e10 : ((y : Int) != 10) = false := by simp; omega
            have HA2 : Hid (∀ j, j < i + 1 → 32 ≤ at' s j ∨ at' s j = 10) := by
              intro j hj
              by_cases e : j = i
              · subst e; right; rw [HAT.out, HY.out]; exact h10
              · exact HA.out j (by omega)
            clear h10
            go_wp2_with fail
            go_roundw
            case rel => exact ⟨i + 1, by go_num, by omega, by first | rfl | trivial, HA2.out⟩
            case measure => simp only [intOf]; omega
          · have e10 : ((y : Int) != 10) = true := by simp; omega
            have hT : T = false := by
              rw [← HT.out]
              unfold wrt
              refine decide_eq_false fun h => ?_
              have := h i hlt
              rw [HAT.out, HY.out] at this
              omega
            subst hT
            go_wp2_with fail
            go_ret
            exact ⟨rfl, b1⟩
        · have d1 : decide ((y : Int) < 32) = false := by simp; omega
          have HA2 : Hid (∀ j, j < i + 1 → 32 ≤ at' s j ∨ at' s j = 10) := by
            intro j hj
            by_cases e : j = i
            · subst e; left; rw [HAT.out, HY.out]; omega
            · exact HA.out j (by omega)
          go_wp2_with fail
          go_roundw
          case rel => exact ⟨i + 1, by go_num, by omega, by first | rfl | trivial, HA2.out⟩
          case measure => simp only [intOf]; omega
      · have d0 : decide ((i : Int) < (s.size : Int)) = false := by simp; omega
        have hT : T = true := by
          rw [← HT.out]
          exact decide_eq_true fun j hj => HA.out j (by omega)
        subst hT
        go_wp2_with fail
        go_ret
        exact ⟨rfl, b1⟩
theorem ne : ∀ s : ByteArray, s.toList.isEmpty = (s.size == 0) := by
  intro s
  rw [ByteArray.toList_eq]
  cases h : s.data.toList with
  | nil =>
    have : s.size = 0 := by rw [← ByteArray.size_data, ← Array.length_toList, h]; rfl
    simp [this]
  | cons a r =>
    have : s.size = r.length + 1 := by rw [← ByteArray.size_data, ← Array.length_toList, h]; rfl
    simp [this]
/-- Int and Str, as the Op asks for. -/
def ft (o i : Int) (t : ByteArray) : Bool :=
  if o = 4 then decide (0 ≤ i) && (t.size == 0)
  else if o = 5 then (i == 0) && tx t
  else if o = 6 then (i == 0) && (UBase.word t 95 && !(Lib.containsS wdl t))
  else if o = 7 then (i == 0) && UBase.word t 95
  else if o = 9 then (decide (1 ≤ i) && decide (i ≤ 8)) && (t.size == 0)
  else (i == 0) && (t.size == 0)
theorem ret_bool {a b : Bool} (h : a = b) : Ending.returned (.bool a) = .returned (.bool b) := by rw [h]
set_option maxRecDepth 20000 in
set_option maxHeartbeats 1600000 in
theorem fits_int {i : Int} {t : ByteArray} {a : Option Addr} {n c : Nat} (w : World) :
    Calls Tryz.prog 94 #[.agg #[.int .i64 4, .int .i64 i, .string t, .slice a n c]] w fun e w' => e = .returned (.bool (ft 4 i t)) ∧ Below w.heap.size w w' := by
  have b0 : Below w.heap.size w (w.alloc (.cells #[.int .i64 4, .int .i64 i, .string t, .slice a n c] 24)) := (Below.refl _ w).alloc (Nat.le_refl _) _
  have hne := ne t
  have e : ft 4 i t = (decide (0 ≤ i) && (t.size == 0)) := rfl
  rw [e]
  obtain ⟨z, hz⟩ : ∃ z, (t.size == 0) = z := ⟨_, rfl⟩
  rw [hz] at hne ⊢
  clear e hz
  by_cases hi : 0 ≤ i
  · have d : decide ((0 : Int) ≤ i) = true := decide_eq_true hi
    rw [d, Bool.true_and]
    clear hi
    go_enter Tryz.func94, Tryz.ntmps94
    go_wp2_with fail
    go_ret
    exact ⟨ret_bool rfl, b0⟩
  · have d : decide ((0 : Int) ≤ i) = false := decide_eq_false hi
    rw [d, Bool.false_and]
    clear hi
    go_enter Tryz.func94, Tryz.ntmps94
    go_wp2_with fail
    go_ret
    exact ⟨rfl, b0⟩
set_option maxRecDepth 20000 in
set_option maxHeartbeats 1600000 in
theorem fits_else {o i : Int} {t : ByteArray} {a : Option Addr} {n c : Nat} (h4 : o ≠ 4) (h5 : o ≠ 5) (h6 : o ≠ 6) (h7 : o ≠ 7) (h9 : o ≠ 9) (w : World) :
    Calls Tryz.prog 94 #[.agg #[.int .i64 o, .int .i64 i, .string t, .slice a n c]] w fun e w' => e = .returned (.bool (ft o i t)) ∧ Below w.heap.size w w' := by
  have b0 : Below w.heap.size w (w.alloc (.cells #[.int .i64 o, .int .i64 i, .string t, .slice a n c] 24)) := (Below.refl _ w).alloc (Nat.le_refl _) _
  have hne := ne t
  have e : ft o i t = ((i == 0) && (t.size == 0)) := by unfold ft; rw [if_neg h4, if_neg h5, if_neg h6, if_neg h7, if_neg h9]
  rw [e]
  have e4 : (o == 4) = false := by simp [h4]
  have e5 : (o == 5) = false := by simp [h5]
  have e6 : (o == 6) = false := by simp [h6]
  have e7 : (o == 7) = false := by simp [h7]
  have e9 : (o == 9) = false := by simp [h9]
  obtain ⟨z, hz⟩ : ∃ z, (t.size == 0) = z := ⟨_, rfl⟩
  rw [hz] at hne ⊢
  clear e hz h4 h5 h6 h7 h9
  cases hi : (i == 0) with
  | true =>
    rw [Bool.true_and]
    go_enter Tryz.func94, Tryz.ntmps94
    go_wp2_with fail
    go_ret
    exact ⟨ret_bool rfl, b0⟩
  | false =>
    rw [Bool.false_and]
    go_enter Tryz.func94, Tryz.ntmps94
    go_wp2_with fail
    go_ret
    exact ⟨rfl, b0⟩
set_option maxRecDepth 20000 in
set_option maxHeartbeats 1600000 in
theorem fits_text {i : Int} {t : ByteArray} {a : Option Addr} {n c : Nat} (ht : t.size ≤ 140737488351232) (w : World) :
    Calls Tryz.prog 94 #[.agg #[.int .i64 5, .int .i64 i, .string t, .slice a n c]] w fun e w' => e = .returned (.bool (ft 5 i t)) ∧ Below w.heap.size w w' := by
  have b0 : Below w.heap.size w (w.alloc (.cells #[.int .i64 5, .int .i64 i, .string t, .slice a n c] 24)) := (Below.refl _ w).alloc (Nat.le_refl _) _
  have e : ft 5 i t = ((i == 0) && tx t) := rfl
  rw [e]
  have cT := fun W => isText_c t ht W
  obtain ⟨z, hz⟩ : ∃ z, tx t = z := ⟨_, rfl⟩
  rw [hz] at cT ⊢
  clear e hz
  cases hi : (i == 0) with
  | true =>
    rw [Bool.true_and]
    go_enter Tryz.func94, Tryz.ntmps94
    go_wp2_with fail
    refine (cT _).mono ?_
    rintro e W1 ⟨rfl, b1⟩
    go_wp2_with fail
    go_ret
    exact ⟨rfl, nx b0 b1⟩
  | false =>
    rw [Bool.false_and]
    go_enter Tryz.func94, Tryz.ntmps94
    go_wp2_with fail
    go_ret
    exact ⟨rfl, b0⟩
set_option maxRecDepth 20000 in
set_option maxHeartbeats 1600000 in
theorem fits_field {i : Int} {t : ByteArray} {a : Option Addr} {n c : Nat} (ht : t.size ≤ 140737488351232) (w : World) :
    Calls Tryz.prog 94 #[.agg #[.int .i64 7, .int .i64 i, .string t, .slice a n c]] w fun e w' => e = .returned (.bool (ft 7 i t)) ∧ Below w.heap.size w w' := by
  have b0 : Below w.heap.size w (w.alloc (.cells #[.int .i64 7, .int .i64 i, .string t, .slice a n c] 24)) := (Below.refl _ w).alloc (Nat.le_refl _) _
  have e : ft 7 i t = ((i == 0) && UBase.word t 95) := rfl
  rw [e]
  have cT := fun W => EName.Name_c t (by omega) W
  obtain ⟨z, hz⟩ : ∃ z, UBase.word t 95 = z := ⟨_, rfl⟩
  rw [hz] at cT ⊢
  clear e hz
  cases hi : (i == 0) with
  | true =>
    rw [Bool.true_and]
    go_enter Tryz.func94, Tryz.ntmps94
    go_wp2_with fail
    refine (cT _).mono ?_
    rintro e W1 ⟨rfl, rfl⟩
    go_wp2_with fail
    go_ret
    exact ⟨rfl, b0⟩
  | false =>
    rw [Bool.false_and]
    go_enter Tryz.func94, Tryz.ntmps94
    go_wp2_with fail
    go_ret
    exact ⟨rfl, b0⟩
set_option maxRecDepth 20000 in
set_option maxHeartbeats 1600000 in
theorem fits_call {i : Int} {t : ByteArray} {a : Option Addr} {n c : Nat} (w : World) :
    Calls Tryz.prog 94 #[.agg #[.int .i64 9, .int .i64 i, .string t, .slice a n c]] w fun e w' => e = .returned (.bool (ft 9 i t)) ∧ Below w.heap.size w w' := by
  have b0 : Below w.heap.size w (w.alloc (.cells #[.int .i64 9, .int .i64 i, .string t, .slice a n c] 24)) := (Below.refl _ w).alloc (Nat.le_refl _) _
  have hne := ne t
  have e : ft 9 i t = ((decide (1 ≤ i) && decide (i ≤ 8)) && (t.size == 0)) := rfl
  rw [e]
  obtain ⟨z, hz⟩ : ∃ z, (t.size == 0) = z := ⟨_, rfl⟩
  rw [hz] at hne ⊢
  clear e hz
  by_cases h1 : 1 ≤ i
  · have d1 : decide ((1 : Int) ≤ i) = true := decide_eq_true h1
    rw [d1, Bool.true_and]
    by_cases h8 : i ≤ 8
    · have d8 : decide (i ≤ (8 : Int)) = true := decide_eq_true h8
      rw [d8, Bool.true_and]
      clear h1 h8
      go_enter Tryz.func94, Tryz.ntmps94
      go_wp2_with fail
      go_ret
      exact ⟨ret_bool rfl, b0⟩
    · have d8 : decide (i ≤ (8 : Int)) = false := decide_eq_false h8
      rw [d8, Bool.false_and]
      clear h1 h8
      go_enter Tryz.func94, Tryz.ntmps94
      go_wp2_with fail
      go_ret
      exact ⟨rfl, b0⟩
  · have d1 : decide ((1 : Int) ≤ i) = false := decide_eq_false h1
    rw [d1, Bool.false_and, Bool.false_and]
    clear h1
    go_enter Tryz.func94, Tryz.ntmps94
    go_wp2_with fail
    go_ret
    exact ⟨rfl, b0⟩
set_option maxRecDepth 20000 in
set_option maxHeartbeats 1600000 in
theorem fits_var {i : Int} {t : ByteArray} {a : Option Addr} {n c : Nat} (ht : t.size ≤ 140737488351232) (w : World) :
    Calls Tryz.prog 94 #[.agg #[.int .i64 6, .int .i64 i, .string t, .slice a n c]] w fun e w' => e = .returned (.bool (ft 6 i t)) ∧ Below w.heap.size w w' := by
  obtain ⟨W0, hW0⟩ : ∃ W0, w.alloc (.cells #[.int .i64 6, .int .i64 i, .string t, .slice a n c] 24) = W0 := ⟨_, rfl⟩
  have b0 : Below w.heap.size w W0 := by rw [← hW0]; exact (Below.refl _ w).alloc (Nat.le_refl _) _
  have q0 : W0.heap[w.heap.size]? = some (.cells #[.int .i64 6, .int .i64 i, .string t, .slice a n c] 24 (0, 0)) := by rw [← hW0]; exact heap_alloc_new w _
  obtain ⟨v0, v1, v2, v3⟩ := four_box q0
  have e : ft 6 i t = ((i == 0) && (UBase.word t 95 && !(Lib.containsS wdl t))) := rfl
  rw [e]
  have cT := fun W => EName.Name_c t (by omega) W
  obtain ⟨z, hz⟩ : ∃ z, UBase.word t 95 = z := ⟨_, rfl⟩
  rw [hz] at cT ⊢
  obtain ⟨u, hu⟩ : ∃ u, Lib.containsS wdl t = u := ⟨_, rfl⟩
  rw [hu]
  have HU : Hid (Lib.containsS wdl t = u) := hu
  have HQ0 : Hid (W0.heap[w.heap.size]? = some (.cells #[.int .i64 6, .int .i64 i, .string t, .slice a n c] 24 (0, 0))) := q0
  have HB0 : Hid (Below w.heap.size w W0) := b0
  clear e hz hu q0 b0
  cases hi : (i == 0) with
  | false =>
    rw [Bool.false_and]
    go_enter Tryz.func94, Tryz.ntmps94
    go_wp2_with fail
    clear hW0
    go_quiet (first | (go_at_call 138; exact Calls.quiet_of_same (cT _)))
    go_wp2_with fail
    go_ret
    exact ⟨rfl, HB0.out.trans ⟨rfl, rfl, rfl, by simp, fun _ _ => by simp⟩⟩
  | true =>
    rw [Bool.true_and]
    cases z with
    | false =>
      rw [Bool.false_and]
      go_enter Tryz.func94, Tryz.ntmps94
      go_wp2_with fail
      clear hW0
      go_quiet (first | (go_at_call 138; exact Calls.quiet_of_same (cT _)))
      go_wp2_with fail
      go_ret
      exact ⟨rfl, HB0.out.trans ⟨rfl, rfl, rfl, by simp, fun _ _ => by simp⟩⟩
    | true =>
      rw [Bool.true_and]
      go_enter Tryz.func94, Tryz.ntmps94
      go_wp2_with fail
      clear hW0
      go_region_with (first | (go_at_call 138; refine (cT _).mono ?_; rintro e W1 ⟨rfl, rfl⟩) | (go_at_call 139; refine (words_c _).mono ?_; rintro e W2 ⟨rfl, b2, hc2⟩; have q2 := (b2.block w.heap.size (show w.heap.size < W0.heap.size from (Array.getElem?_eq_some_iff.1 HQ0.out).1)).trans HQ0.out; obtain ⟨s0, s1, s2, s3⟩ := four_box q2; have cC := Tryz.slices_Contains_string _ 0 4 4 wdl t W2 (by decide) (by omega) hc2; rw [show wdl.take 4 = wdl from rfl, HU.out] at cC; have HB2 : Hid (Below w.heap.size w W2) := (HB0.out.trans (Below.refl _ W0).drew).trans (b2.mono HB0.out.size); clear hc2 b2 q2) | (go_at_call 88; refine cC.mono ?_; rintro e W3 ⟨rfl, rfl⟩))
      all_goals
        go_wp2_with fail
        go_ret
        exact ⟨rfl, HB2.out⟩
theorem fits_c {o i : Int} {t : ByteArray} {a : Option Addr} {n c : Nat} (ht : t.size ≤ 140737488351232) (w : World) :
    Calls Tryz.prog 94 #[.agg #[.int .i64 o, .int .i64 i, .string t, .slice a n c]] w fun e w' => e = .returned (.bool (ft o i t)) ∧ Below w.heap.size w w' := by
  by_cases h4 : o = 4
  · subst h4; exact fits_int w
  by_cases h5 : o = 5
  · subst h5; exact fits_text ht w
  by_cases h6 : o = 6
  · subst h6; exact fits_var ht w
  by_cases h7 : o = 7
  · subst h7; exact fits_field ht w
  by_cases h9 : o = 9
  · subst h9; exact fits_call w
  exact fits_else h4 h5 h6 h7 h9 w
end Go.Proofs.YtgnbemgbohehcaaGreatDoor.PFit
namespace Go.Proofs.YtgnbemgbohehcaaGreatDoor.PMay
open Go.RowKit Go.Proofs.YtgnbemgbohehcaaGreatDoor.Base Go.Proofs.YtgnbemgbohehcaaGreatDoor.UBase Go.Proofs.YtgnbemgbohehcaaGreatDoor.EPure Go.Proofs.YtgnbemgbohehcaaGreatDoor.ERd Go.Proofs.YtgnbemgbohehcaaGreatDoor.ESc Go.Proofs.YtgnbemgbohehcaaGreatDoor.PPl Go.Proofs.YtgnbemgbohehcaaGreatDoor.PFit
open Go.Proofs.YtgnbemgbohehcaaGreatDoor.XBase (four_box two_box frozen_box Rg Four)
set_option linter.unusedVariables false
/-- Trees that may be, one behind the other, and how much room is left. -/
def mayL : List Ex → Nat → Bool × Nat
  | [], r => (true, r)
  | .mk o i s l :: t, r => if r = 0 ∨ (l.length : Int) ≠ kd o ∨ ft o i s = false then (false, r) else
      match mayL l (r - 1) with
      | (false, r') => (false, r')
      | (true, r') => mayL t r'
theorem mayL_nil (r : Nat) : mayL [] r = (true, r) := by rw [mayL]
theorem mayL_one {o i : Int} {s : ByteArray} {l : List Ex} {r : Nat} (h : ¬ (r = 0 ∨ (l.length : Int) ≠ kd o ∨ ft o i s = false)) : mayL [.mk o i s l] r = mayL l (r - 1) := by
  rw [mayL, if_neg h]
  cases e : mayL l (r - 1) with
  | mk b r' =>
    cases b with
    | false => rfl
    | true => exact mayL_nil r'
theorem mayL_no {o i : Int} {s : ByteArray} {l t : List Ex} {r : Nat} (h : r = 0 ∨ (l.length : Int) ≠ kd o ∨ ft o i s = false) : mayL (.mk o i s l :: t) r = (false, r) := by
  rw [mayL, if_pos h]
theorem mayL_cons (x : Ex) (t : List Ex) (r : Nat) : mayL (x :: t) r = if (mayL [x] r).1 = true then mayL t (mayL [x] r).2 else mayL [x] r := by
  obtain ⟨o, i, s, l⟩ := x
  by_cases h : r = 0 ∨ (l.length : Int) ≠ kd o ∨ ft o i s = false
  · rw [mayL_no h, mayL_no h]; simp
  · rw [mayL_one h, mayL, if_neg h]
    cases e : mayL l (r - 1) with
    | mk b r' => cases b <;> simp
theorem mayL_le : ∀ (n : Nat) (l : List Ex) (r : Nat), SizeOf.sizeOf l ≤ n → (mayL l r).2 ≤ r := by
  intro n
  induction n with
  | zero =>
    intro l r h
    cases l with
    | nil => rw [mayL_nil]; exact Nat.le_refl _
    | cons x t => exact absurd h (by simp)
  | succ n ih =>
    intro l r h
    cases l with
    | nil => rw [mayL_nil]; exact Nat.le_refl _
    | cons x t =>
      obtain ⟨o, i, s, k⟩ := x
      rw [mayL]
      by_cases hc : r = 0 ∨ (k.length : Int) ≠ kd o ∨ ft o i s = false
      · rw [if_pos hc]; exact Nat.le_refl _
      · rw [if_neg hc]
        have h1 := ih k (r - 1) (by simp at h; omega)
        cases e : mayL k (r - 1) with
        | mk b r' =>
          rw [e] at h1
          simp only at h1
          cases b with
          | false => simp only; omega
          | true =>
            have h2 := ih t r' (by simp at h; omega)
            simp only; omega
/-- What mayBe does, at trees nested less than m deep. -/
def MI (m : Nat) : Prop := ∀ (w : World) (v : Value) (x : Ex) (Rm r : Nat), XBase.In false (fun b => b ≠ Rm) w m v x → w.heap[Rm]? = some (.cells #[.int .i64 r] 3 (0, 0)) → r ≤ 512 →
    Calls Tryz.prog 70 #[v, .pointer (some ⟨Rm, 0, none⟩)] w fun e w' => e = .returned (.bool (mayL [x] r).1) ∧ Kr Rm w w' ∧ w'.heap[Rm]? = some (.cells #[.int .i64 ((mayL [x] r).2 : Nat)] 3 (0, 0))
theorem one_cell {w : World} {B : Nat} {v : Value} {t : TypeId} (h : w.heap[B]? = some (.cells #[v] t (0, 0))) : w.cell? ⟨B, 0, none⟩ = some v := by simp [World.cell?, h]
theorem set_one {w : World} {B : Nat} {v u : Value} {t : TypeId} (h : w.heap[B]? = some (.cells #[v] t (0, 0))) : (w.setCell ⟨B, 0, none⟩ u).heap[B]? = some (.cells #[u] t (0, 0)) := by
  simp [World.setCell, Array.getElem?_modify, h]
set_option maxRecDepth 20000 in
set_option maxHeartbeats 1600000 in
theorem may_full {w : World} {o i : Int} {s : ByteArray} {l : List Ex} {a : Option Addr} {cap Rm r : Nat} (ho : -9223372036854775808 ≤ o ∧ o ≤ 9223372036854775807) (hl : l.length ≤ 140737488351232) (hcap : l.length ≤ cap ∧ cap ≤ 9223372036854775807) (hs : s.size ≤ 140737488351232) (hr : w.heap[Rm]? = some (.cells #[.int .i64 r] 3 (0, 0))) (hr5 : r ≤ 512) (h0 : r = 0) :
    Calls Tryz.prog 70 #[.agg #[.int .i64 o, .int .i64 i, .string s, .slice a l.length cap], .pointer (some ⟨Rm, 0, none⟩)] w fun e w' => e = .returned (.bool false) ∧ Kr Rm w w' ∧ w'.heap[Rm]? = some (.cells #[.int .i64 r] 3 (0, 0)) := by
  obtain ⟨W0, hW0⟩ : ∃ W0, w.alloc (.cells #[.int .i64 o, .int .i64 i, .string s, .slice a l.length cap] 24) = W0 := ⟨_, rfl⟩
  have b0 : Below w.heap.size w W0 := by rw [← hW0]; exact (Below.refl _ w).alloc (Nat.le_refl _) _
  have q0 : W0.heap[w.heap.size]? = some (.cells #[.int .i64 o, .int .i64 i, .string s, .slice a l.length cap] 24 (0, 0)) := by rw [← hW0]; exact heap_alloc_new w _
  have hRl := (Array.getElem?_eq_some_iff.1 hr).1
  have r0 := (b0.block Rm hRl).trans hr
  obtain ⟨v0, v1, v2, v3⟩ := four_box q0
  have z0 := one_cell r0
  have HB0 : Hid (Below w.heap.size w W0) := b0
  have HR0 : Hid (W0.heap[Rm]? = some (.cells #[.int .i64 r] 3 (0, 0))) := r0
  have HQ0 : Hid (W0.heap[w.heap.size]? = some (.cells #[.int .i64 o, .int .i64 i, .string s, .slice a l.length cap] 24 (0, 0))) := q0
  have cK := fun W => kidsOf_c o ho.1 ho.2 W
  have e0 : ((r : Int) == 0) = true := by simp; omega
  clear q0 r0 b0 h0
  go_enter Tryz.func70, Tryz.ntmps70
  go_wp2_with fail
  clear hW0
  go_quiet (first | (go_at_call 93; exact Calls.quiet_of_same (cK _)))
  go_wp2_with fail
  go_ret
  exact ⟨rfl, Kr.of_below (HB0.out.trans ⟨rfl, rfl, rfl, by simp, fun _ _ => by simp⟩) (by omega), HR0.out⟩
set_option maxRecDepth 20000 in
set_option maxHeartbeats 1600000 in
theorem may_kids {w : World} {o i : Int} {s : ByteArray} {l : List Ex} {a : Option Addr} {cap Rm r : Nat} (ho : -9223372036854775808 ≤ o ∧ o ≤ 9223372036854775807) (hl : l.length ≤ 140737488351232) (hcap : l.length ≤ cap ∧ cap ≤ 9223372036854775807) (hs : s.size ≤ 140737488351232) (hr : w.heap[Rm]? = some (.cells #[.int .i64 r] 3 (0, 0))) (hr5 : r ≤ 512) (h0 : r ≠ 0) (hk : (l.length : Int) ≠ kd o) :
    Calls Tryz.prog 70 #[.agg #[.int .i64 o, .int .i64 i, .string s, .slice a l.length cap], .pointer (some ⟨Rm, 0, none⟩)] w fun e w' => e = .returned (.bool false) ∧ Kr Rm w w' ∧ w'.heap[Rm]? = some (.cells #[.int .i64 r] 3 (0, 0)) := by
  obtain ⟨W0, hW0⟩ : ∃ W0, w.alloc (.cells #[.int .i64 o, .int .i64 i, .string s, .slice a l.length cap] 24) = W0 := ⟨_, rfl⟩
  have b0 : Below w.heap.size w W0 := by rw [← hW0]; exact (Below.refl _ w).alloc (Nat.le_refl _) _
  have q0 : W0.heap[w.heap.size]? = some (.cells #[.int .i64 o, .int .i64 i, .string s, .slice a l.length cap] 24 (0, 0)) := by rw [← hW0]; exact heap_alloc_new w _
  have hRl := (Array.getElem?_eq_some_iff.1 hr).1
  have r0 := (b0.block Rm hRl).trans hr
  obtain ⟨v0, v1, v2, v3⟩ := four_box q0
  have z0 := one_cell r0
  have HB0 : Hid (Below w.heap.size w W0) := b0
  have HR0 : Hid (W0.heap[Rm]? = some (.cells #[.int .i64 r] 3 (0, 0))) := r0
  have HQ0 : Hid (W0.heap[w.heap.size]? = some (.cells #[.int .i64 o, .int .i64 i, .string s, .slice a l.length cap] 24 (0, 0))) := q0
  have cK := fun W => kidsOf_c o ho.1 ho.2 W
  have e0 : ((r : Int) == 0) = false := by simp; omega
  obtain ⟨K, hK⟩ : ∃ K, kd o = K := ⟨_, rfl⟩
  rw [hK] at cK hk
  have e1 : ((l.length : Int) != K) = true := by simpa using hk
  clear q0 r0 b0 h0 hk hK
  go_enter Tryz.func70, Tryz.ntmps70
  go_wp2_with fail
  clear hW0
  go_quiet (first | (go_at_call 93; exact Calls.quiet_of_same (cK _)))
  go_wp2_with fail
  go_ret
  exact ⟨rfl, Kr.of_below (HB0.out.trans ⟨rfl, rfl, rfl, by simp, fun _ _ => by simp⟩) (by omega), HR0.out⟩
set_option maxRecDepth 20000 in
set_option maxHeartbeats 1600000 in
theorem may_unfit {w : World} {o i : Int} {s : ByteArray} {l : List Ex} {a : Option Addr} {cap Rm r : Nat} (ho : -9223372036854775808 ≤ o ∧ o ≤ 9223372036854775807) (hl : l.length ≤ 140737488351232) (hcap : l.length ≤ cap ∧ cap ≤ 9223372036854775807) (hs : s.size ≤ 140737488351232) (hr : w.heap[Rm]? = some (.cells #[.int .i64 r] 3 (0, 0))) (hr5 : r ≤ 512) (h0 : r ≠ 0) (hk : (l.length : Int) = kd o) (hf : ft o i s = false) :
    Calls Tryz.prog 70 #[.agg #[.int .i64 o, .int .i64 i, .string s, .slice a l.length cap], .pointer (some ⟨Rm, 0, none⟩)] w fun e w' => e = .returned (.bool false) ∧ Kr Rm w w' ∧ w'.heap[Rm]? = some (.cells #[.int .i64 r] 3 (0, 0)) := by
  obtain ⟨W0, hW0⟩ : ∃ W0, w.alloc (.cells #[.int .i64 o, .int .i64 i, .string s, .slice a l.length cap] 24) = W0 := ⟨_, rfl⟩
  have b0 : Below w.heap.size w W0 := by rw [← hW0]; exact (Below.refl _ w).alloc (Nat.le_refl _) _
  have q0 : W0.heap[w.heap.size]? = some (.cells #[.int .i64 o, .int .i64 i, .string s, .slice a l.length cap] 24 (0, 0)) := by rw [← hW0]; exact heap_alloc_new w _
  have hRl := (Array.getElem?_eq_some_iff.1 hr).1
  have r0 := (b0.block Rm hRl).trans hr
  obtain ⟨v0, v1, v2, v3⟩ := four_box q0
  have z0 := one_cell r0
  have HB0 : Hid (Below w.heap.size w W0) := b0
  have HR0 : Hid (W0.heap[Rm]? = some (.cells #[.int .i64 r] 3 (0, 0))) := r0
  have HQ0 : Hid (W0.heap[w.heap.size]? = some (.cells #[.int .i64 o, .int .i64 i, .string s, .slice a l.length cap] 24 (0, 0))) := q0
  have cK := fun W => kidsOf_c o ho.1 ho.2 W
  have e0 : ((r : Int) == 0) = false := by simp; omega
  obtain ⟨K, hK⟩ : ∃ K, kd o = K := ⟨_, rfl⟩
  rw [hK] at cK hk
  have e1 : ((l.length : Int) != K) = false := by simpa using hk
  have cF := fun W => fits_c (o := o) (i := i) (a := a) (n := l.length) (c := cap) hs W
  rw [hf] at cF
  have hz0 : W0.heap.size = w.heap.size + 1 := by rw [← hW0]; simp
  clear q0 r0 b0 h0 hk hK hf
  go_enter Tryz.func70, Tryz.ntmps70
  go_wp2_with fail
  clear hW0
  go_region_held3 (fun w' => w'.cell? ⟨Rm, 0, none⟩ = some (.int .i64 r) ∧ w'.cell? ⟨w.heap.size, 0, none⟩ = some (.int .i64 o) ∧ w'.cell? ⟨w.heap.size, 1, none⟩ = some (.int .i64 i) ∧ w'.cell? ⟨w.heap.size, 2, none⟩ = some (.string s) ∧ w'.cell? ⟨w.heap.size, 3, none⟩ = some (.slice a l.length cap)) (go_keep) (first | (go_at_call 93; refine (cK _).mono ?_; rintro e W1 ⟨rfl, rfl⟩) | (go_at_call 94; refine (cF _).mono ?_; rintro e W2 ⟨rfl, b2⟩; have R2 := (b2.block Rm (show Rm < W0.heap.size by omega)).trans HR0.out; have Q2 := (b2.block w.heap.size (show w.heap.size < W0.heap.size by omega)).trans HQ0.out; have y0 := one_cell R2; obtain ⟨u0, u1, u2, u3⟩ := four_box Q2) | fail)
  all_goals
    rename_i hHeld
    clear hHeld
    have B2 : Below w.heap.size w W2 := (HB0.out.trans (Below.refl _ W0).drew).trans (b2.mono HB0.out.size)
    clear u0 u1 u2 u3 y0 Q2
    have HB2 : Hid (Below w.heap.size w W2) := B2
    have HR2 : Hid (W2.heap[Rm]? = some (.cells #[.int .i64 r] 3 (0, 0))) := R2
    clear B2 R2 b2
    go_wp2_with fail
    go_ret
    exact ⟨rfl, Kr.of_below HB2.out (by omega), HR2.out⟩
set_option maxRecDepth 20000 in
set_option maxHeartbeats 1600000 in
theorem may_go {w : World} {o i : Int} {s : ByteArray} {l : List Ex} {a : Option Addr} {cap Rm r : Nat} (ho : -9223372036854775808 ≤ o ∧ o ≤ 9223372036854775807) (hl : l.length ≤ 140737488351232) (hcap : l.length ≤ cap ∧ cap ≤ 9223372036854775807) (hs : s.size ≤ 140737488351232) (hr : w.heap[Rm]? = some (.cells #[.int .i64 r] 3 (0, 0))) (hr5 : r ≤ 512) {m : Nat} (ih : MI m) (hin : XBase.InL false (fun b => b ≠ Rm) w m (.slice a l.length cap) l) (h0 : r ≠ 0) (hk : (l.length : Int) = kd o) (hf : ft o i s = true) :
    Calls Tryz.prog 70 #[.agg #[.int .i64 o, .int .i64 i, .string s, .slice a l.length cap], .pointer (some ⟨Rm, 0, none⟩)] w fun e w' => e = .returned (.bool (mayL l (r - 1)).1) ∧ Kr Rm w w' ∧ w'.heap[Rm]? = some (.cells #[.int .i64 ((mayL l (r - 1)).2 : Nat)] 3 (0, 0)) := by
  obtain ⟨W0, hW0⟩ : ∃ W0, w.alloc (.cells #[.int .i64 o, .int .i64 i, .string s, .slice a l.length cap] 24) = W0 := ⟨_, rfl⟩
  have b0 : Below w.heap.size w W0 := by rw [← hW0]; exact (Below.refl _ w).alloc (Nat.le_refl _) _
  have q0 : W0.heap[w.heap.size]? = some (.cells #[.int .i64 o, .int .i64 i, .string s, .slice a l.length cap] 24 (0, 0)) := by rw [← hW0]; exact heap_alloc_new w _
  have hRl := (Array.getElem?_eq_some_iff.1 hr).1
  have r0 := (b0.block Rm hRl).trans hr
  obtain ⟨v0, v1, v2, v3⟩ := four_box q0
  have z0 := one_cell r0
  have HB0 : Hid (Below w.heap.size w W0) := b0
  have HR0 : Hid (W0.heap[Rm]? = some (.cells #[.int .i64 r] 3 (0, 0))) := r0
  have HQ0 : Hid (W0.heap[w.heap.size]? = some (.cells #[.int .i64 o, .int .i64 i, .string s, .slice a l.length cap] 24 (0, 0))) := q0
  have cK := fun W => kidsOf_c o ho.1 ho.2 W
  have e0 : ((r : Int) == 0) = false := by simp; omega
  obtain ⟨K, hK⟩ : ∃ K, kd o = K := ⟨_, rfl⟩
  rw [hK] at cK hk
  have e1 : ((l.length : Int) != K) = false := by simpa using hk
  have cF := fun W => fits_c (o := o) (i := i) (a := a) (n := l.length) (c := cap) hs W
  rw [hf] at cF
  have hz0 : W0.heap.size = w.heap.size + 1 := by rw [← hW0]; simp
  have HIN : Hid (XBase.InL false (fun b => b ≠ Rm) w m (.slice a l.length cap) l) := hin
  obtain ⟨T, hT⟩ : ∃ T, mayL l (r - 1) = T := ⟨_, rfl⟩
  rw [hT]
  have HT : Hid (mayL l (r - 1) = T) := hT
  obtain ⟨T1, T2⟩ := T
  have hwr : IntKind.i64.wrap ((r : Int) - 1) = (r : Int) - 1 := by rw [IntKind.wrap_i64]; omega
  clear q0 r0 b0 hk hK hf hin hT
  go_enter Tryz.func70, Tryz.ntmps70
  go_wp2_with fail
  clear hW0
  go_region_held3 (fun w' => w'.cell? ⟨Rm, 0, none⟩ = some (.int .i64 r) ∧ w'.cell? ⟨w.heap.size, 0, none⟩ = some (.int .i64 o) ∧ w'.cell? ⟨w.heap.size, 1, none⟩ = some (.int .i64 i) ∧ w'.cell? ⟨w.heap.size, 2, none⟩ = some (.string s) ∧ w'.cell? ⟨w.heap.size, 3, none⟩ = some (.slice a l.length cap)) (go_keep) (first | (go_at_call 93; refine (cK _).mono ?_; rintro e W1 ⟨rfl, rfl⟩) | (go_at_call 94; refine (cF _).mono ?_; rintro e W2 ⟨rfl, b2⟩; have R2 := (b2.block Rm (show Rm < W0.heap.size by omega)).trans HR0.out; have Q2 := (b2.block w.heap.size (show w.heap.size < W0.heap.size by omega)).trans HQ0.out; have y0 := one_cell R2; obtain ⟨u0, u1, u2, u3⟩ := four_box Q2) | fail)
  all_goals
    rename_i hHeld
    clear hHeld
    have B2 : Below w.heap.size w W2 := (HB0.out.trans (Below.refl _ W0).drew).trans (b2.mono HB0.out.size)
    have g0 := XBase.frozen_box R2 0
    have hne : Rm ≠ w.heap.size := by omega
    have hne2 : w.heap.size ≠ Rm := by omega
    have R3 := set_one (u := .int .i64 ((r : Int) - 1)) R2
    have K3 : Kr Rm w (W2.setCell ⟨Rm, 0, none⟩ (.int .i64 ((r : Int) - 1))) := (Kr.of_below B2 (by omega)).set 0 _
    have Q3 : (W2.setCell ⟨Rm, 0, none⟩ (.int .i64 ((r : Int) - 1))).heap[w.heap.size]? = some (.cells #[.int .i64 o, .int .i64 i, .string s, .slice a l.length cap] 24 (0, 0)) := (Below.heap_setCell _ _ _ _ hne2).trans Q2
    obtain ⟨W3, hW3⟩ : ∃ W3, W2.setCell ⟨Rm, 0, none⟩ (.int .i64 ((r : Int) - 1)) = W3 := ⟨_, rfl⟩
    rw [hW3] at R3 K3 Q3
    obtain ⟨x0, x1, x2, x3⟩ := four_box Q3
    have HR3 : Hid (W3.heap[Rm]? = some (.cells #[.int .i64 ((r - 1 : Nat) : Int)] 3 (0, 0))) := by
      show _ = _
      rw [R3, show ((r - 1 : Nat) : Int) = (r : Int) - 1 from by omega]
    have HK3 : Hid (Kr Rm w W3) := K3
    have hs3 := K3.below.size
    clear B2 R2 b2 R3 K3 Q3 Q2 cF cK HB0 HR0 HQ0 v0 v1 v2 v3 z0
    go_wp2_with fail
    clear hW3 u0 u1 u2 u3 y0 g0
    go_loopw [33] (fun v wr => ∃ (q r' : Nat), v = .int .i64 q ∧ q ≤ l.length ∧ r' ≤ 512 ∧ Kr Rm w wr ∧ wr.heap[Rm]? = some (.cells #[.int .i64 (r' : Nat)] 3 (0, 0)) ∧ mayL (l.drop q) r' = (T1, T2)) (fun v _ => l.length - (intOf v).toNat)
    case atStart => exact ⟨0, r - 1, rfl, by omega, by omega, HK3.out, HR3.out, HT.out⟩
    case round =>
      clear HR3 HK3 HT x0 x1 x2 x3
      obtain ⟨q, r', rfl, hq, hr', hK, hR, hM⟩ := hrel
      have HM : Hid (mayL (l.drop q) r' = (T1, T2)) := hM
      have HKR : Hid (Kr Rm w wr) := hK
      have HRR : Hid (wr.heap[Rm]? = some (.cells #[.int .i64 (r' : Nat)] 3 (0, 0))) := hR
      have hsz := hK.below.size
      clear hM hR hK
      by_cases hlt : q < l.length
      · have d0 : decide ((q : Int) < (l.length : Int)) = true := by simp; omega
        have hinl := HIN.out.keep (w' := wr) (fun b hb hlt => HKR.out.other b hb hlt)
        obtain ⟨aa, cc, hsl, -, -, -, -, hLA⟩ := hinl
        cases hsl
        obtain ⟨g, of, u, ha, hSg, hFour, hInq⟩ := XBase.elem_at hLA hlt
        subst ha
        obtain ⟨c0, c1, c2, c3, rfl, d1, d2, d3, d4⟩ := hFour
        obtain ⟨m', a2, cp2, -, rfl, rfl, rfl, rfl, hob, hib, hsb, -⟩ := hInq.kinds
        obtain ⟨y, hy⟩ : ∃ y, l[q] = y := ⟨_, rfl⟩
        rw [hy] at hInq d1 d2 d3 d4
        obtain ⟨W4, hW4⟩ : ∃ W4, wr.alloc (.cells #[.int .i64 y.o, .int .i64 y.i, .string y.s, .slice a2 y.l.length cp2] 24) = W4 := ⟨_, rfl⟩
        have b4 : Below wr.heap.size wr W4 := by rw [← hW4]; exact (Below.refl _ wr).alloc (Nat.le_refl _) _
        have q4 : W4.heap[wr.heap.size]? = some (.cells #[.int .i64 y.o, .int .i64 y.i, .string y.s, .slice a2 y.l.length cp2] 24 (0, 0)) := by rw [← hW4]; exact heap_alloc_new wr _
        obtain ⟨e0', e1', e2', e3'⟩ := four_box q4
        have R4 := (b4.block Rm (by omega)).trans HRR.out
        have cM := ih W4 _ y Rm r' (hInq.below b4) R4 hr'
        have hstep := mayL_cons y (l.drop (q + 1)) r'
        have hdrop : l.drop q = y :: l.drop (q + 1) := by rw [← hy]; exact List.drop_eq_getElem_cons hlt
        have HST : Hid ((if (mayL [y] r').1 = true then mayL (l.drop (q + 1)) (mayL [y] r').2 else mayL [y] r') = (T1, T2)) := by
          show _ = _
          rw [← hstep, ← hdrop]
          exact HM.out
        have hle := mayL_le _ [y] r' (Nat.le_refl _)
        obtain ⟨Z, hZ⟩ : ∃ Z, mayL [y] r' = Z := ⟨_, rfl⟩
        have HST2 : Hid ((if Z.1 = true then mayL (l.drop (q + 1)) Z.2 else Z) = (T1, T2)) := by rw [← hZ]; exact HST.out
        rw [hZ] at cM hle
        obtain ⟨Z1, Z2⟩ := Z
        dsimp only at cM hle
        have hcapq : l.length ≤ cap := hcap.1
        clear hstep hdrop HST hZ R4 hInq q4 hLA HM hob hib hsb
        go_wp2_with fail
        refine cM.mono ?_
        rintro e W5 ⟨rfl, K5, R5⟩
        have K4 : Kr Rm wr W4 := Kr.of_below b4 (by omega)
        have KK := (HKR.out.trans K4).trans K5
        have HKK : Hid (Kr Rm w W5) := KK
        have HR5 : Hid (W5.heap[Rm]? = some (.cells #[.int .i64 (Z2 : Nat)] 3 (0, 0))) := R5
        clear cM K4 KK K5 R5 b4 hW4 d1 d2 d3 d4 e0' e1' e2' e3' HKR HRR
        cases Z1 with
        | false =>
          have hT : (false, Z2) = (T1, T2) := HST2.out
          cases hT
          go_wp2_with fail
          go_ret
          exact ⟨rfl, HKK.out, HR5.out⟩
        | true =>
          go_wp2_with fail
          go_roundw
          case rel => exact ⟨q + 1, Z2, by go_num, by omega, by omega, HKK.out, HR5.out, HST2.out⟩
          case measure => simp only [intOf]; omega
      · have d0 : decide ((q : Int) < (l.length : Int)) = false := by simp; omega
        have hT : (true, r') = (T1, T2) := by
          have := HM.out
          rw [List.drop_eq_nil_of_le (by omega), mayL_nil] at this
          exact this
        cases hT
        go_wp2_with fail
        go_ret
        exact ⟨rfl, HKR.out, HRR.out⟩
theorem may_all : ∀ m, MI m
  | 0 => by
    intro w v x Rm r h
    rw [XBase.In] at h
    exact h.elim
  | m + 1 => by
    intro w v x Rm r h hr hr5
    obtain ⟨o, i, s, l⟩ := x
    rw [XBase.in_iff] at h
    obtain ⟨lv, rfl, ho, hi, hs, hl⟩ := h
    have hl0 := hl
    obtain ⟨a, cap, rfl, h1, h2, h3, -, -⟩ := hl
    by_cases h0 : r = 0
    · rw [mayL_no (.inl h0)]
      exact may_full ho (by omega) ⟨h1, h2⟩ hs hr hr5 h0
    · by_cases hk : (l.length : Int) = kd o
      · cases hf : ft o i s with
        | false =>
          rw [mayL_no (.inr (.inr hf))]
          exact may_unfit ho (by omega) ⟨h1, h2⟩ hs hr hr5 h0 hk hf
        | true =>
          rw [mayL_one (fun h => h.elim h0 (fun h => h.elim (fun h => h hk) (fun h => by rw [hf] at h; cases h)))]
          exact may_go ho (by omega) ⟨h1, h2⟩ hs hr hr5 (may_all m) hl0 h0 hk hf
      · rw [mayL_no (.inr (.inl hk))]
        exact may_kids ho (by omega) ⟨h1, h2⟩ hs hr hr5 h0 hk
end Go.Proofs.YtgnbemgbohehcaaGreatDoor.PMay
namespace Go.Proofs.YtgnbemgbohehcaaGreatDoor.PPr
open Go.RowKit Go.Proofs.YtgnbemgbohehcaaGreatDoor.Base Go.Proofs.YtgnbemgbohehcaaGreatDoor.EPure Go.Proofs.YtgnbemgbohehcaaGreatDoor.ENd Go.Proofs.YtgnbemgbohehcaaGreatDoor.PPl Go.Proofs.YtgnbemgbohehcaaGreatDoor.PFit Go.Proofs.YtgnbemgbohehcaaGreatDoor.PMay Go.Proofs.YtgnbemgbohehcaaGreatDoor.PTx
set_option linter.unusedVariables false
/-- How loose each kid may be. -/
def kl (o : Int) : List Int := if o = 31 then [0, -1, -1] else if o = 10 ∨ o = 11 then [11] else if o = 7 then [12] else if o = 8 then [12, -1] else if o = 9 then [-1] else [lvl o, lvl o + 1]
/-- A node's text out of its kids' texts. -/
def bdy (o i : Int) (s : ByteArray) (p : List (List UInt8)) : List UInt8 :=
  if o = 31 then p.getD 0 [] ++ [32, 63, 32] ++ p.getD 1 [] ++ [32, 58, 32] ++ p.getD 2 []
  else if o = 10 then 45 :: p.getD 0 []
  else if o = 11 then 33 :: p.getD 0 []
  else if o = 4 then Lib.itoa i
  else if o = 5 then qt s
  else if o = 6 then s.data.toList
  else if o = 7 then p.getD 0 [] ++ [46] ++ s.data.toList
  else if o = 8 then p.getD 0 [] ++ (91 :: p.getD 1 [] ++ [93])
  else if o = 9 then (cll.getD i.toNat ByteArray.empty).data.toList ++ (40 :: p.getD 0 [] ++ [41])
  else if o ≤ 3 then (wdl.getD o.toNat ByteArray.empty).data.toList
  else p.getD 0 [] ++ [32] ++ sgo o ++ [32] ++ p.getD 1 []
def par (z o : Int) (t : List UInt8) : List UInt8 := if lvl o < z then 40 :: t ++ [41] else t
def prL : List Ex → List Int → List (List UInt8)
  | [], _ => []
  | .mk o i s l :: t, z => par (z.headD 0) o (bdy o i s (prL l (kl o))) :: prL t z.tail
/-- An expression's text, where it may be as loose as z. -/
def pr (z : Int) (x : Ex) : List UInt8 := par z x.o (bdy x.o x.i x.s (prL x.l (kl x.o)))
theorem prL_nil (z : List Int) : prL [] z = [] := by rw [prL]
theorem prL_cons (x : Ex) (t : List Ex) (z : List Int) : prL (x :: t) z = pr (z.headD 0) x :: prL t z.tail := by
  obtain ⟨o, i, s, l⟩ := x
  rw [prL]
  rfl
theorem pr1 {x : Ex} {z : Int} : prL [x] [z] = [pr z x] := by rw [prL_cons, prL_nil]; rfl
theorem pr2 {x y : Ex} {z z' : Int} : prL [x, y] [z, z'] = [pr z x, pr z' y] := by rw [prL_cons, List.tail_cons, pr1]; rfl
theorem pr3 {x y u : Ex} {z z' z'' : Int} : prL [x, y, u] [z, z', z''] = [pr z x, pr z' y, pr z'' u] := by rw [prL_cons, List.tail_cons, pr2]; rfl
/-- Each may be: kids as many as the Op has, Int and Str as it asks for. -/
def gdL : List Ex → Prop
  | [] => True
  | .mk o i s l :: t => ((l.length : Int) = kd o ∧ ft o i s = true ∧ gdL l) ∧ gdL t
theorem gdL_cons {x : Ex} {t : List Ex} : gdL (x :: t) ↔ ((x.l.length : Int) = kd x.o ∧ ft x.o x.i x.s = true ∧ gdL x.l) ∧ gdL t := by
  obtain ⟨o, i, s, l⟩ := x
  rw [gdL]
  exact Iff.rfl
def gd (x : Ex) : Prop := (x.l.length : Int) = kd x.o ∧ ft x.o x.i x.s = true ∧ gdL x.l
theorem gdL_get : ∀ {l : List Ex}, gdL l → ∀ {j : Nat} (h : j < l.length), gd l[j]
  | [], _, _, h => absurd h (by simp)
  | x :: t, hg, 0, _ => (gdL_cons.1 hg).1
  | x :: t, hg, j + 1, h => gdL_get (gdL_cons.1 hg).2 (j := j) (by simpa using h)
theorem gd_of : ∀ (n : Nat) (l : List Ex) (r : Nat), SizeOf.sizeOf l ≤ n → (mayL l r).1 = true → gdL l := by
  intro n
  induction n with
  | zero =>
    intro l r h _
    cases l with
    | nil => rw [gdL]; trivial
    | cons x t => exact absurd h (by simp)
  | succ n ih =>
    intro l r h hm
    cases l with
    | nil => rw [gdL]; trivial
    | cons x t =>
      obtain ⟨o, i, s, k⟩ := x
      rw [mayL] at hm
      by_cases hc : r = 0 ∨ (k.length : Int) ≠ kd o ∨ ft o i s = false
      · rw [if_pos hc] at hm; cases hm
      · rw [if_neg hc] at hm
        have h1 := ih k (r - 1) (by simp at h; omega)
        cases e : mayL k (r - 1) with
        | mk b r' =>
          rw [e] at h1 hm
          cases b with
          | false => cases hm
          | true =>
            rw [gdL]
            refine ⟨⟨?_, ?_, h1 rfl⟩, ih t r' (by simp at h; omega) hm⟩
            · exact Classical.byContradiction fun hh => hc (.inr (.inl hh))
            · cases hf : ft o i s with
              | true => rfl
              | false => exact (hc (.inr (.inr hf))).elim
theorem gd_range {x : Ex} (h : gd x) : 1 ≤ x.o ∧ x.o ≤ 31 := by
  have h1 := h.1
  unfold kd at h1
  repeat' split at h1
  all_goals omega
end Go.Proofs.YtgnbemgbohehcaaGreatDoor.PPr

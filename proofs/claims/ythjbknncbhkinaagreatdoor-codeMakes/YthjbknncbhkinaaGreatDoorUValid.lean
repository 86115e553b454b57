/- Contracts of Valid, the program's and the document's. -/
import Derived.Test.YthjbknncbhkinaaGreatDoorUSmall
import Derived.LoopTactic
namespace Go.Proofs.YthjbknncbhkinaaGreatDoor.ULength
open Go.ChangeShapes Go.WideShapes Go.ChangeAt Go.RowKit Go.Proofs.YthjbknncbhkinaaGreatDoor.UBase Go.Proofs.YthjbknncbhkinaaGreatDoor.USmall
set_option linter.unusedVariables false

theorem tl_in {s : ByteArray} {i : Nat} (h : tl s i = true) : i < s.size := by unfold tl at h; simp at h; exact h.1
theorem low_c (s : ByteArray) (i : Nat) (h : i < s.size) (ha : ((s[i].toNat : Int)) < 128) (w : World) :
    Calls Tryz.prog 145 #[.string s, .int .i64 i] w fun r w' => r = .returned (.int .i64 1) ∧ w' = w := by
  go_enter Tryz.func145, Tryz.ntmps145
  go_wp2
  go_ret
  exact ⟨rfl, rfl⟩
theorem none_low (s : ByteArray) (i : Nat) (h : i < s.size) (ha : ¬ ((s[i].toNat : Int)) < 128) (hb : ((s[i].toNat : Int)) < 194) (w : World) :
    Calls Tryz.prog 145 #[.string s, .int .i64 i] w fun r w' => r = .returned (.int .i64 0) ∧ w' = w := by
  have d1 : decide ((194 : Int) ≤ (s[i].toNat : Int)) = false := by simp; omega
  have d2 : decide ((224 : Int) ≤ (s[i].toNat : Int)) = false := by simp; omega
  have d3 : decide ((240 : Int) ≤ (s[i].toNat : Int)) = false := by simp; omega
  go_enter Tryz.func145, Tryz.ntmps145
  go_wp2
  go_ret
  exact ⟨rfl, rfl⟩
theorem none_high (s : ByteArray) (i : Nat) (h : i < s.size) (ha : ¬ ((s[i].toNat : Int)) < 245) (w : World) :
    Calls Tryz.prog 145 #[.string s, .int .i64 i] w fun r w' => r = .returned (.int .i64 0) ∧ w' = w := by
  have d0 : ¬ ((s[i].toNat : Int)) < 128 := by omega
  have d1 : (194 : Int) ≤ (s[i].toNat : Int) := by omega
  have d2 : (224 : Int) ≤ (s[i].toNat : Int) := by omega
  have d3 : (240 : Int) ≤ (s[i].toNat : Int) := by omega
  have d4 : decide ((s[i].toNat : Int) < 224) = false := by simp; omega
  have d5 : decide ((s[i].toNat : Int) < 240) = false := by simp; omega
  have d6 : decide ((s[i].toNat : Int) < 245) = false := by simp; omega
  go_enter Tryz.func145, Tryz.ntmps145
  go_wp2
  go_ret
  exact ⟨rfl, rfl⟩
theorem two_yes (s : ByteArray) (i : Nat) (h : i < s.size) (hs : s.size ≤ 140737488351232) (ha : (194 : Int) ≤ (s[i].toNat : Int)) (hb : (s[i].toNat : Int) < 224) (t1 : tl s (i + 1) = true) (w : World) :
    Calls Tryz.prog 145 #[.string s, .int .i64 i] w fun r w' => r = .returned (.int .i64 2) ∧ w' = w := by
  have d0 : ¬ ((s[i].toNat : Int)) < 128 := by omega
  go_enter Tryz.func145, Tryz.ntmps145
  go_wp2_with (first | (go_at_call 153; refine (tail_j s _ (by omega) _).mono ?_; rintro e w' ⟨rfl, rfl⟩))
  go_ret
  exact ⟨rfl, rfl⟩
theorem two_no (s : ByteArray) (i : Nat) (h : i < s.size) (hs : s.size ≤ 140737488351232) (ha : (194 : Int) ≤ (s[i].toNat : Int)) (hb : (s[i].toNat : Int) < 224) (t1 : tl s (i + 1) = false) (w : World) :
    Calls Tryz.prog 145 #[.string s, .int .i64 i] w fun r w' => r = .returned (.int .i64 0) ∧ w' = w := by
  have d0 : ¬ ((s[i].toNat : Int)) < 128 := by omega
  have d2 : decide ((224 : Int) ≤ (s[i].toNat : Int)) = false := by simp; omega
  have d3 : decide ((240 : Int) ≤ (s[i].toNat : Int)) = false := by simp; omega
  go_enter Tryz.func145, Tryz.ntmps145
  go_wp2_with (first | (go_at_call 153; refine (tail_j s _ (by omega) _).mono ?_; rintro e w' ⟨rfl, rfl⟩))
  go_ret
  exact ⟨rfl, rfl⟩
theorem three_no (s : ByteArray) (i : Nat) (h : i < s.size) (hs : s.size ≤ 140737488351232) (ha : (224 : Int) ≤ (s[i].toNat : Int)) (hb : (s[i].toNat : Int) < 240) (t1 : tl s (i + 1) = false) (w : World) :
    Calls Tryz.prog 145 #[.string s, .int .i64 i] w fun r w' => r = .returned (.int .i64 0) ∧ w' = w := by
  have d0 : ¬ ((s[i].toNat : Int)) < 128 := by omega
  have d1 : (194 : Int) ≤ (s[i].toNat : Int) := by omega
  have d4 : decide ((s[i].toNat : Int) < 224) = false := by simp; omega
  have d3 : decide ((240 : Int) ≤ (s[i].toNat : Int)) = false := by simp; omega
  go_enter Tryz.func145, Tryz.ntmps145
  go_wp2_with (first | (go_at_call 153; refine (tail_j s _ (by omega) _).mono ?_; rintro e w' ⟨rfl, rfl⟩))
  go_ret
  exact ⟨rfl, rfl⟩
theorem three_cut (s : ByteArray) (i : Nat) (h : i < s.size) (hs : s.size ≤ 140737488351232) (ha : (224 : Int) ≤ (s[i].toNat : Int)) (hb : (s[i].toNat : Int) < 240) (T : Int → Bool) (ct : ∀ j w, 0 ≤ j → Calls Tryz.prog 153 #[.string s, .int .i64 j] w fun r w' => r = .returned (.bool (T j)) ∧ w' = w) (t1 : T (i + 1) = true) (t2 : T (i + 2) = false) (w : World) :
    Calls Tryz.prog 145 #[.string s, .int .i64 i] w fun r w' => r = .returned (.int .i64 0) ∧ w' = w := by
  have d0 : ¬ ((s[i].toNat : Int)) < 128 := by omega
  have d1 : (194 : Int) ≤ (s[i].toNat : Int) := by omega
  have d4 : decide ((s[i].toNat : Int) < 224) = false := by simp; omega
  have d3 : decide ((240 : Int) ≤ (s[i].toNat : Int)) = false := by simp; omega
  go_enter Tryz.func145, Tryz.ntmps145
  go_wp2_with (first | (go_at_call 153; refine (ct _ _ (by omega)).mono ?_; rintro e w' ⟨rfl, rfl⟩))
  go_ret
  exact ⟨rfl, rfl⟩
set_option maxRecDepth 20000 in
theorem three_yes (s : ByteArray) (i : Nat) (h : i < s.size) (h1 : i + 1 < s.size) (hs : s.size ≤ 140737488351232) (T : Int → Bool) (ct : ∀ j w, 0 ≤ j → Calls Tryz.prog 153 #[.string s, .int .i64 j] w fun r w' => r = .returned (.bool (T j)) ∧ w' = w) (t1 : T (i + 1) = true) (t2 : T (i + 2) = true)
    (x : Nat) (hx : s[i].toNat = x) (y : Nat) (hy : s[i + 1].toNat = y) (ha : (224 : Int) ≤ (x : Int)) (hb : (x : Int) < 240) (r : Int) (hr : Hid (r = if (x = 224 ∧ y < 160) ∨ (x = 237 ∧ 160 ≤ y) then 0 else 3)) (w : World) :
    Calls Tryz.prog 145 #[.string s, .int .i64 i] w fun e w' => e = .returned (.int .i64 r) ∧ w' = w := by
  have d0 : ¬ (x : Int) < 128 := by omega
  have d1 : (194 : Int) ≤ (x : Int) := by omega
  have d4 : decide ((x : Int) < 224) = false := by simp; omega
  have d3 : decide ((240 : Int) ≤ (x : Int)) = false := by simp; omega
  go_enter Tryz.func145, Tryz.ntmps145
  go_wp2_with (first | (go_at_call 153; refine (ct _ _ (by omega)).mono ?_; rintro e w' ⟨rfl, rfl⟩))
  all_goals go_ret
  all_goals first
    | (obtain rfl : r = 3 := by have := hr.out; split at this <;> omega
       exact ⟨rfl, rfl⟩)
    | (obtain rfl : r = 0 := by have := hr.out; split at this <;> omega
       exact ⟨rfl, rfl⟩)
theorem four_no1 (s : ByteArray) (i : Nat) (h : i < s.size) (hs : s.size ≤ 140737488351232) (T : Int → Bool) (ct : ∀ j w, 0 ≤ j → Calls Tryz.prog 153 #[.string s, .int .i64 j] w fun r w' => r = .returned (.bool (T j)) ∧ w' = w) (t1 : T (i + 1) = false)
    (x : Nat) (hx : s[i].toNat = x) (ha : (240 : Int) ≤ (x : Int)) (hb : (x : Int) < 245) (w : World) :
    Calls Tryz.prog 145 #[.string s, .int .i64 i] w fun e w' => e = .returned (.int .i64 0) ∧ w' = w := by
  have d0 : ¬ (x : Int) < 128 := by omega
  have d1 : (194 : Int) ≤ (x : Int) := by omega
  have d4 : decide ((x : Int) < 224) = false := by simp; omega
  have d2 : (224 : Int) ≤ (x : Int) := by omega
  have d5 : decide ((x : Int) < 240) = false := by simp; omega
  go_enter Tryz.func145, Tryz.ntmps145
  go_wp2_with (first | (go_at_call 153; refine (ct _ _ (by omega)).mono ?_; rintro e w' ⟨rfl, rfl⟩))
  go_ret
  exact ⟨rfl, rfl⟩
theorem four_no2 (s : ByteArray) (i : Nat) (h : i < s.size) (hs : s.size ≤ 140737488351232) (T : Int → Bool) (ct : ∀ j w, 0 ≤ j → Calls Tryz.prog 153 #[.string s, .int .i64 j] w fun r w' => r = .returned (.bool (T j)) ∧ w' = w) (t1 : T (i + 1) = true) (t2 : T (i + 2) = false)
    (x : Nat) (hx : s[i].toNat = x) (ha : (240 : Int) ≤ (x : Int)) (hb : (x : Int) < 245) (w : World) :
    Calls Tryz.prog 145 #[.string s, .int .i64 i] w fun e w' => e = .returned (.int .i64 0) ∧ w' = w := by
  have d0 : ¬ (x : Int) < 128 := by omega
  have d1 : (194 : Int) ≤ (x : Int) := by omega
  have d4 : decide ((x : Int) < 224) = false := by simp; omega
  have d2 : (224 : Int) ≤ (x : Int) := by omega
  have d5 : decide ((x : Int) < 240) = false := by simp; omega
  go_enter Tryz.func145, Tryz.ntmps145
  go_wp2_with (first | (go_at_call 153; refine (ct _ _ (by omega)).mono ?_; rintro e w' ⟨rfl, rfl⟩))
  go_ret
  exact ⟨rfl, rfl⟩
theorem four_no3 (s : ByteArray) (i : Nat) (h : i < s.size) (hs : s.size ≤ 140737488351232) (T : Int → Bool) (ct : ∀ j w, 0 ≤ j → Calls Tryz.prog 153 #[.string s, .int .i64 j] w fun r w' => r = .returned (.bool (T j)) ∧ w' = w) (t1 : T (i + 1) = true) (t2 : T (i + 2) = true) (t3 : T (i + 3) = false)
    (x : Nat) (hx : s[i].toNat = x) (ha : (240 : Int) ≤ (x : Int)) (hb : (x : Int) < 245) (w : World) :
    Calls Tryz.prog 145 #[.string s, .int .i64 i] w fun e w' => e = .returned (.int .i64 0) ∧ w' = w := by
  have d0 : ¬ (x : Int) < 128 := by omega
  have d1 : (194 : Int) ≤ (x : Int) := by omega
  have d4 : decide ((x : Int) < 224) = false := by simp; omega
  have d2 : (224 : Int) ≤ (x : Int) := by omega
  have d5 : decide ((x : Int) < 240) = false := by simp; omega
  go_enter Tryz.func145, Tryz.ntmps145
  go_wp2_with (first | (go_at_call 153; refine (ct _ _ (by omega)).mono ?_; rintro e w' ⟨rfl, rfl⟩))
  go_ret
  exact ⟨rfl, rfl⟩
set_option maxRecDepth 20000 in
theorem four_yes (s : ByteArray) (i : Nat) (h : i < s.size) (h1 : i + 1 < s.size) (hs : s.size ≤ 140737488351232) (T : Int → Bool) (ct : ∀ j w, 0 ≤ j → Calls Tryz.prog 153 #[.string s, .int .i64 j] w fun r w' => r = .returned (.bool (T j)) ∧ w' = w) (t1 : T (i + 1) = true) (t2 : T (i + 2) = true) (t3 : T (i + 3) = true)
    (x : Nat) (hx : s[i].toNat = x) (y : Nat) (hy : s[i + 1].toNat = y) (ha : (240 : Int) ≤ (x : Int)) (hb : (x : Int) < 245) (r : Int) (hr : Hid (r = if (x = 240 ∧ y < 144) ∨ (x = 244 ∧ 144 ≤ y) then 0 else 4)) (w : World) :
    Calls Tryz.prog 145 #[.string s, .int .i64 i] w fun e w' => e = .returned (.int .i64 r) ∧ w' = w := by
  have d0 : ¬ (x : Int) < 128 := by omega
  have d1 : (194 : Int) ≤ (x : Int) := by omega
  have d4 : decide ((x : Int) < 224) = false := by simp; omega
  have d2 : (224 : Int) ≤ (x : Int) := by omega
  have d5 : decide ((x : Int) < 240) = false := by simp; omega
  go_enter Tryz.func145, Tryz.ntmps145
  go_wp2_with (first | (go_at_call 153; refine (ct _ _ (by omega)).mono ?_; rintro e w' ⟨rfl, rfl⟩))
  all_goals go_ret
  all_goals first
    | (obtain rfl : r = 4 := by have := hr.out; split at this <;> omega
       exact ⟨rfl, rfl⟩)
    | (obtain rfl : r = 0 := by have := hr.out; split at this <;> omega
       exact ⟨rfl, rfl⟩)

theorem tl_of {s : ByteArray} {i : Nat} (h : tl s i = true) : 128 ≤ at' s i ∧ at' s i < 192 := (tl_iff s i).mp h
theorem not_tl {s : ByteArray} {i : Nat} (h : tl s i = false) : ¬ (128 ≤ at' s i ∧ at' s i < 192) := fun e => by rw [(tl_iff s i).mpr e] at h; cases h
theorem length_c (s : ByteArray) (i : Nat) (h : i < s.size) (hs : s.size ≤ 140737488351232) (w : World) :
    Calls Tryz.prog 145 #[.string s, .int .i64 i] w fun r w' => r = .returned (.int .i64 (len s i)) ∧ w' = w := by
  have ea := at_get s i h
  have ct : ∀ j w, 0 ≤ j → Calls Tryz.prog 153 #[.string s, .int .i64 j] w fun r w' => r = .returned (.bool (tl s j.toNat)) ∧ w' = w := fun j w hj => tail_j s j hj w
  have k1 : tl s ((i : Int) + 1).toNat = tl s (i + 1) := by congr 1
  have k2 : tl s ((i : Int) + 2).toNat = tl s (i + 2) := by congr 1
  have k3 : tl s ((i : Int) + 3).toNat = tl s (i + 3) := by congr 1
  have L := len_eq s i
  unfold len4 at L
  by_cases a1 : at' s i < 128
  · have e : len s i = 1 := by rw [L]; simp [a1]
    rw [e]
    exact low_c s i h (by omega) w
  by_cases a2 : at' s i < 194
  · have e : len s i = 0 := by rw [L]; repeat' split
                               all_goals omega
    rw [e]
    exact none_low s i h (by omega) (by omega) w
  by_cases a3 : at' s i < 224
  · cases t1 : tl s (i + 1) with
    | false =>
      have n1 := not_tl t1
      have e : len s i = 0 := by rw [L]; repeat' split
                                 all_goals omega
      rw [e]
      exact two_no s i h hs (by omega) (by omega) t1 w
    | true =>
      have n1 := tl_of t1
      have e : len s i = 2 := by rw [L]; repeat' split
                                 all_goals omega
      rw [e]
      exact two_yes s i h hs (by omega) (by omega) t1 w
  by_cases a4 : at' s i < 240
  · cases t1 : tl s (i + 1) with
    | false =>
      have n1 := not_tl t1
      have e : len s i = 0 := by rw [L]; repeat' split
                                 all_goals omega
      rw [e]
      exact three_no s i h hs (by omega) (by omega) t1 w
    | true =>
      have n1 := tl_of t1
      cases t2 : tl s (i + 2) with
      | false =>
        have n2 := not_tl t2
        have e : len s i = 0 := by rw [L]; repeat' split
                                   all_goals omega
        rw [e]
        exact three_cut s i h hs (by omega) (by omega) _ ct (k1.trans t1) (k2.trans t2) w
      | true =>
        have n2 := tl_of t2
        have h1 := tl_in t1
        have eb := at_get s (i + 1) h1
        have er : ((len s i : Nat) : Int) = if (at' s i = 224 ∧ at' s (i + 1) < 160) ∨ (at' s i = 237 ∧ 160 ≤ at' s (i + 1)) then 0 else 3 := by
          rw [L]
          repeat' split
          all_goals omega
        exact three_yes s i h h1 hs _ ct (k1.trans t1) (k2.trans t2) _ ea.symm _ eb.symm (by omega) (by omega) _ er w
  by_cases a5 : at' s i < 245
  · cases t1 : tl s (i + 1) with
    | false =>
      have n1 := not_tl t1
      have e : len s i = 0 := by rw [L]; repeat' split
                                 all_goals omega
      rw [e]
      exact four_no1 s i h hs _ ct (k1.trans t1) _ ea.symm (by omega) (by omega) w
    | true =>
      have n1 := tl_of t1
      cases t2 : tl s (i + 2) with
      | false =>
        have n2 := not_tl t2
        have e : len s i = 0 := by rw [L]; repeat' split
                                   all_goals omega
        rw [e]
        exact four_no2 s i h hs _ ct (k1.trans t1) (k2.trans t2) _ ea.symm (by omega) (by omega) w
      | true =>
        have n2 := tl_of t2
        cases t3 : tl s (i + 3) with
        | false =>
          have n3 := not_tl t3
          have e : len s i = 0 := by rw [L]; repeat' split
                                     all_goals omega
          rw [e]
          exact four_no3 s i h hs _ ct (k1.trans t1) (k2.trans t2) (k3.trans t3) _ ea.symm (by omega) (by omega) w
        | true =>
          have n3 := tl_of t3
          have h1 := tl_in t1
          have eb := at_get s (i + 1) h1
          have er : ((len s i : Nat) : Int) = if (at' s i = 240 ∧ at' s (i + 1) < 144) ∨ (at' s i = 244 ∧ 144 ≤ at' s (i + 1)) then 0 else 4 := by
            rw [L]
            repeat' split
            all_goals omega
          exact four_yes s i h h1 hs _ ct (k1.trans t1) (k2.trans t2) (k3.trans t3) _ ea.symm _ eb.symm (by omega) (by omega) _ er w
  · have e : len s i = 0 := by rw [L]; repeat' split
                               all_goals omega
    rw [e]
    exact none_high s i h (by omega) w
end Go.Proofs.YthjbknncbhkinaaGreatDoor.ULength

namespace Go.Proofs.YthjbknncbhkinaaGreatDoor.UValid
open Go.ChangeShapes Go.WideShapes Go.ChangeAt Go.RowKit Go.Proofs.YthjbknncbhkinaaGreatDoor.UBase Go.Proofs.YthjbknncbhkinaaGreatDoor.USmall Go.Proofs.YthjbknncbhkinaaGreatDoor.ULength
set_option linter.unusedVariables false

theorem vat_of {s : ByteArray} {o : Option Nat} (h : bad s 0 = o) : vat s = o.getD 0 := by unfold vat; rw [h]
theorem verr_none {s : ByteArray} (h : bad s 0 = none) : vat s = 0 ∧ verr s = 0 := by unfold vat verr; rw [h]; simp
theorem verr_some {s : ByteArray} {i : Nat} (h : bad s 0 = some i) : vat s = i ∧ verr s = 300 := by unfold vat verr; rw [h]; simp
theorem rvalid_c (s : ByteArray) (hs : s.size ≤ 140737488351232) (w : World) :
    Calls Tryz.prog 120 #[.string s] w fun r w' => r = .returned (.tuple #[.int .i64 (vat s), .int .i64 (verr s)]) ∧ w' = w := by
  go_enter Tryz.func120, Tryz.ntmps120
  go_wp2
  go_loop [4] (fun i => ∃ n : Nat, n ≤ s.size ∧ i = .int .i64 n ∧ bad s 0 = bad s n) (fun i => s.size - (intOf i).toNat)
  case atStart => exact ⟨0, by omega, rfl, rfl⟩
  case round =>
    obtain ⟨n, hn, rfl, hb⟩ := hrel
    have HB : Hid (bad s 0 = bad s n) := hb
    clear hb
    by_cases hlt : n < s.size
    · by_cases hz : len s n = 0
      · have hz' : (len s n : Int) = 0 := by omega
        go_wp2_with (first | (go_at_call 145; refine (length_c s n hlt hs _).mono ?_; rintro e w' ⟨rfl, rfl⟩))
        go_ret2
        have e := verr_some (HB.out.trans (bad_here hlt hz))
        rw [e.1, e.2]
        exact ⟨rfl, rfl⟩
      · have hz' : ((len s n : Int) == 0) = false := by simp; exact hz
        have hi := len_in hlt
        go_wp2_with (first | (go_at_call 145; refine (length_c s n hlt hs _).mono ?_; rintro e w' ⟨rfl, rfl⟩))
        go_round
        case rel => exact ⟨n + len s n, hi, by go_num, HB.out.trans (bad_step hlt hz)⟩
        case measure => simp only [intOf]; omega
    · go_wp2
      go_ret2
      have e := verr_none (HB.out.trans (bad_end hlt))
      rw [e.1, e.2]
      exact ⟨rfl, rfl⟩
end Go.Proofs.YthjbknncbhkinaaGreatDoor.UValid

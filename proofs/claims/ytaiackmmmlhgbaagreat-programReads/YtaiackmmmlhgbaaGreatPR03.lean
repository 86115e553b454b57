import Derived.Laws.BitsAllLaws
import Derived.LoopTactic
import Derived.WalkSpells
import Derived.Test.YtaiackmmmlhgbaaGreatPR00
open Go.Proofs.Tryz
set_option linter.unusedVariables false
set_option maxRecDepth 20000
namespace Go.Proofs.YtaiackmmmlhgbaaGreat.USmall
open Go.ChangeShapes Go.WideShapes Go.ChangeAt Go.RowKit UBase
theorem letter_c (c : Int) (n : Nat) (h : c = n) (w : World) :
    Calls prog 228 #[.int .u8 c] w fun r w' => r = .returned (.bool (let' n)) /\ w' = w := by
  subst h
  go_enter func228, ntmps228
  go_wp2
  · have h : (97 : Int) <= n := by assumption
    go_ret
    have e : let' n = decide ((n : Int) <= 122) := by unfold let'; simp only [decide_eq_true (show 97 <= n by omega), Bool.true_and]; exact decide_eq_decide.mpr (by omega)
    rw [e]
    exact ⟨rfl, rfl⟩
  · have h : (n : Int) < 97 := by assumption
    go_ret
    have e : let' n = false := by unfold let'; simp; omega
    rw [e]
    exact ⟨rfl, rfl⟩
theorem digit_c (c : Int) (n : Nat) (h : c = n) (w : World) :
    Calls prog 229 #[.int .u8 c] w fun r w' => r = .returned (.bool (dig n)) /\ w' = w := by
  subst h
  go_enter func229, ntmps229
  go_wp2
  · have h : (48 : Int) <= n := by assumption
    go_ret
    have e : dig n = decide ((n : Int) <= 57) := by unfold dig; simp only [decide_eq_true (show 48 <= n by omega), Bool.true_and]; exact decide_eq_decide.mpr (by omega)
    rw [e]
    exact ⟨rfl, rfl⟩
  · have h : (n : Int) < 48 := by assumption
    go_ret
    have e : dig n = false := by unfold dig; simp; omega
    rw [e]
    exact ⟨rfl, rfl⟩
theorem tail_in (s : ByteArray) (i : Nat) (h : i < s.size) (w : World) :
    Calls prog 202 #[.string s, .int .i64 i] w fun r w' => r = .returned (.bool (tl s i)) /\ w' = w := by
  have H : Hid (at' s i = (s[i]'h).toNat) := at_get s i h
  go_enter func202, ntmps202
  go_wp2
  · have h1 : (128 : Int) <= (s[i]'h).toNat := by assumption
    go_ret
    have e : tl s i = decide (((s[i]'h).toNat : Int) < 192) := by
      unfold tl
      rw [H.out]
      simp only [decide_eq_true h, decide_eq_true (show 128 <= (s[i]'h).toNat by omega), Bool.true_and]
      exact decide_eq_decide.mpr (by omega)
    rw [e]
    exact ⟨rfl, rfl⟩
  · have h1 : ((s[i]'h).toNat : Int) < 128 := by assumption
    go_ret
    have e : tl s i = false := by unfold tl; rw [H.out]; simp; omega
    rw [e]
    exact ⟨rfl, rfl⟩
theorem tail_out (s : ByteArray) (i : Nat) (h : ¬ i < s.size) (w : World) :
    Calls prog 202 #[.string s, .int .i64 i] w fun r w' => r = .returned (.bool (tl s i)) /\ w' = w := by
  have e : tl s i = false := by unfold tl; simp [h]
  rw [e]
  go_enter func202, ntmps202
  go_wp2
  go_ret
  exact ⟨rfl, rfl⟩
theorem tail_c (s : ByteArray) (j : Int) (i : Nat) (hj : j = i) (w : World) :
    Calls prog 202 #[.string s, .int .i64 j] w fun r w' => r = .returned (.bool (tl s i)) /\ w' = w := by
  subst hj
  by_cases h : i < s.size
  · exact tail_in s i h w
  · exact tail_out s i h w
theorem tail_j (s : ByteArray) (j : Int) (hj : 0 <= j) (w : World) :
    Calls prog 202 #[.string s, .int .i64 j] w fun r w' => r = .returned (.bool (tl s j.toNat)) /\ w' = w :=
  tail_c s j j.toNat (by omega) w
theorem at_list (s : ByteArray) (i : Nat) : at' s i = ((s.data.toList)[i]?.getD 0).toNat := by
  by_cases h : i < s.size
  · have hl : i < s.data.toList.length := by rw [Array.length_toList]; exact h
    rw [at_get s i h, List.getElem?_eq_getElem hl, Array.getElem_toList]
    rfl
  · have hl : s.data.toList.length <= i := by rw [Array.length_toList]; exact Nat.le_of_not_lt h
    rw [at_out s i h, List.getElem?_eq_none hl]
    rfl
theorem rep_list (d : ByteArray) (h3 : 3 <= d.size) : ((d.extract 0 3).toList == [239, 191, 189]) = rep d 0 := by
  rw [ByteArray.toList_eq, ByteArray.data_extract, Array.toList_extract]
  unfold rep
  rw [at_list d 0, at_list d (0 + 1), at_list d (0 + 2)]
  have hl : d.data.toList.length = d.size := Array.length_toList
  generalize d.data.toList = L at *
  match L, hl with
  | x :: y :: z :: r, _ =>
    rw [Bool.eq_iff_iff]
    simp [<- UInt8.toNat_inj]
  | [], hl => simp at hl; omega
  | [_], hl => simp at hl; omega
  | [_, _], hl => simp at hl; omega
theorem pre_long (d : ByteArray) (h : d.size <= 9223372036854775807) (h3 : 3 <= d.size) (w : World) :
    Calls prog 219 #[.string d, .string ⟨#[239, 191, 189]⟩] w fun r w' => r = .returned (.bool (rep d 0)) /\ w' = w := by
  rw [<- rep_list d h3]
  go_enter func219, ntmps219
  go_wp2
  go_ret
  exact ⟨rfl, rfl⟩
theorem pre_short (d : ByteArray) (h3 : ¬ 3 <= d.size) (w : World) :
    Calls prog 219 #[.string d, .string ⟨#[239, 191, 189]⟩] w fun r w' => r = .returned (.bool (rep d 0)) /\ w' = w := by
  have e : rep d 0 = false := by unfold rep; rw [at_out d (0 + 2) (by omega)]; simp
  rw [e]
  go_enter func219, ntmps219
  go_wp2
  go_ret
  exact ⟨rfl, rfl⟩
theorem pre_c (d : ByteArray) (h : d.size <= 9223372036854775807) (w : World) :
    Calls prog 161 #[.string d] w fun r w' => r = .returned (.bool (rep d 0)) /\ w' = w := by
  have c26 : ∀ w, Calls prog 219 #[.string d, .string ⟨#[239, 191, 189]⟩] w fun r w' => r = .returned (.bool (rep d 0)) /\ w' = w := fun w => by
    by_cases h3 : 3 <= d.size
    · exact pre_long d h h3 w
    · exact pre_short d h3 w
  have c23 : ∀ w, Calls prog 200 #[.string d, .string ⟨#[239, 191, 189]⟩] w fun r w' => r = .returned (.bool (rep d 0)) /\ w' = w := fun w => by
    go_enter func200, ntmps200
    go_wp2_with (first | (go_at_call 219; refine (c26 _).mono ?_; rintro e w' ⟨rfl, rfl⟩))
    go_ret
    exact ⟨rfl, rfl⟩
  go_enter func161, ntmps161
  go_wp2_with (first | (go_at_call 200; refine (c23 _).mono ?_; rintro e w' ⟨rfl, rfl⟩))
  go_ret
  exact ⟨rfl, rfl⟩
end Go.Proofs.YtaiackmmmlhgbaaGreat.USmall
namespace Go.Proofs.YtaiackmmmlhgbaaGreat.ULength
open Go.ChangeShapes Go.WideShapes Go.ChangeAt Go.RowKit UBase USmall
theorem tl_in {s : ByteArray} {i : Nat} (h : tl s i = true) : i < s.size := by unfold tl at h; simp at h; exact h.1
theorem low_c (s : ByteArray) (i : Nat) (h : i < s.size) (ha : ((s[i].toNat : Int)) < 128) (w : World) :
    Calls prog 166 #[.string s, .int .i64 i] w fun r w' => r = .returned (.int .i64 1) /\ w' = w := by
  go_enter func166, ntmps166
  go_wp2
  go_ret
  exact ⟨rfl, rfl⟩
theorem none_low (s : ByteArray) (i : Nat) (h : i < s.size) (ha : ¬ ((s[i].toNat : Int)) < 128) (hb : ((s[i].toNat : Int)) < 194) (w : World) :
    Calls prog 166 #[.string s, .int .i64 i] w fun r w' => r = .returned (.int .i64 0) /\ w' = w := by
  have d1 : decide ((194 : Int) <= (s[i].toNat : Int)) = false := by simp; omega
  have d2 : decide ((224 : Int) <= (s[i].toNat : Int)) = false := by simp; omega
  have d3 : decide ((240 : Int) <= (s[i].toNat : Int)) = false := by simp; omega
  go_enter func166, ntmps166
  go_wp2
  go_ret
  exact ⟨rfl, rfl⟩
theorem none_high (s : ByteArray) (i : Nat) (h : i < s.size) (ha : ¬ ((s[i].toNat : Int)) < 245) (w : World) :
    Calls prog 166 #[.string s, .int .i64 i] w fun r w' => r = .returned (.int .i64 0) /\ w' = w := by
  have d0 : ¬ ((s[i].toNat : Int)) < 128 := by omega
  have d1 : (194 : Int) <= (s[i].toNat : Int) := by omega
  have d2 : (224 : Int) <= (s[i].toNat : Int) := by omega
  have d3 : (240 : Int) <= (s[i].toNat : Int) := by omega
  have d4 : decide ((s[i].toNat : Int) < 224) = false := by simp; omega
  have d5 : decide ((s[i].toNat : Int) < 240) = false := by simp; omega
  have d6 : decide ((s[i].toNat : Int) < 245) = false := by simp; omega
  go_enter func166, ntmps166
  go_wp2
  go_ret
  exact ⟨rfl, rfl⟩
theorem two_yes (s : ByteArray) (i : Nat) (h : i < s.size) (hs : s.size <= 140737488351232) (ha : (194 : Int) <= (s[i].toNat : Int)) (hb : (s[i].toNat : Int) < 224) (t1 : tl s (i + 1) = true) (w : World) :
    Calls prog 166 #[.string s, .int .i64 i] w fun r w' => r = .returned (.int .i64 2) /\ w' = w := by
  have d0 : ¬ ((s[i].toNat : Int)) < 128 := by omega
  go_enter func166, ntmps166
  go_wp2_with (first | (go_at_call 202; refine (tail_j s _ (by omega) _).mono ?_; rintro e w' ⟨rfl, rfl⟩))
  go_ret
  exact ⟨rfl, rfl⟩
theorem two_no (s : ByteArray) (i : Nat) (h : i < s.size) (hs : s.size <= 140737488351232) (ha : (194 : Int) <= (s[i].toNat : Int)) (hb : (s[i].toNat : Int) < 224) (t1 : tl s (i + 1) = false) (w : World) :
    Calls prog 166 #[.string s, .int .i64 i] w fun r w' => r = .returned (.int .i64 0) /\ w' = w := by
  have d0 : ¬ ((s[i].toNat : Int)) < 128 := by omega
  have d2 : decide ((224 : Int) <= (s[i].toNat : Int)) = false := by simp; omega
  have d3 : decide ((240 : Int) <= (s[i].toNat : Int)) = false := by simp; omega
  go_enter func166, ntmps166
  go_wp2_with (first | (go_at_call 202; refine (tail_j s _ (by omega) _).mono ?_; rintro e w' ⟨rfl, rfl⟩))
  go_ret
  exact ⟨rfl, rfl⟩
theorem three_no (s : ByteArray) (i : Nat) (h : i < s.size) (hs : s.size <= 140737488351232) (ha : (224 : Int) <= (s[i].toNat : Int)) (hb : (s[i].toNat : Int) < 240) (t1 : tl s (i + 1) = false) (w : World) :
    Calls prog 166 #[.string s, .int .i64 i] w fun r w' => r = .returned (.int .i64 0) /\ w' = w := by
  have d0 : ¬ ((s[i].toNat : Int)) < 128 := by omega
  have d1 : (194 : Int) <= (s[i].toNat : Int) := by omega
  have d4 : decide ((s[i].toNat : Int) < 224) = false := by simp; omega
  have d3 : decide ((240 : Int) <= (s[i].toNat : Int)) = false := by simp; omega
  go_enter func166, ntmps166
  go_wp2_with (first | (go_at_call 202; refine (tail_j s _ (by omega) _).mono ?_; rintro e w' ⟨rfl, rfl⟩))
  go_ret
  exact ⟨rfl, rfl⟩
theorem three_cut (s : ByteArray) (i : Nat) (h : i < s.size) (hs : s.size <= 140737488351232) (ha : (224 : Int) <= (s[i].toNat : Int)) (hb : (s[i].toNat : Int) < 240) (T : Int -> Bool) (ct : ∀ j w, 0 <= j -> Calls prog 202 #[.string s, .int .i64 j] w fun r w' => r = .returned (.bool (T j)) /\ w' = w) (t1 : T (i + 1) = true) (t2 : T (i + 2) = false) (w : World) :
    Calls prog 166 #[.string s, .int .i64 i] w fun r w' => r = .returned (.int .i64 0) /\ w' = w := by
  have d0 : ¬ ((s[i].toNat : Int)) < 128 := by omega
  have d1 : (194 : Int) <= (s[i].toNat : Int) := by omega
  have d4 : decide ((s[i].toNat : Int) < 224) = false := by simp; omega
  have d3 : decide ((240 : Int) <= (s[i].toNat : Int)) = false := by simp; omega
  go_enter func166, ntmps166
  go_wp2_with (first | (go_at_call 202; refine (ct _ _ (by omega)).mono ?_; rintro e w' ⟨rfl, rfl⟩))
  go_ret
  exact ⟨rfl, rfl⟩
theorem three_yes (s : ByteArray) (i : Nat) (h : i < s.size) (h1 : i + 1 < s.size) (hs : s.size <= 140737488351232) (T : Int -> Bool) (ct : ∀ j w, 0 <= j -> Calls prog 202 #[.string s, .int .i64 j] w fun r w' => r = .returned (.bool (T j)) /\ w' = w) (t1 : T (i + 1) = true) (t2 : T (i + 2) = true)
    (x : Nat) (hx : s[i].toNat = x) (y : Nat) (hy : s[i + 1].toNat = y) (ha : (224 : Int) <= (x : Int)) (hb : (x : Int) < 240) (r : Int) (hr : Hid (r = if (x = 224 /\ y < 160) \/ (x = 237 /\ 160 <= y) then 0 else 3)) (w : World) :
    Calls prog 166 #[.string s, .int .i64 i] w fun e w' => e = .returned (.int .i64 r) /\ w' = w := by
  have d0 : ¬ (x : Int) < 128 := by omega
  have d1 : (194 : Int) <= (x : Int) := by omega
  have d4 : decide ((x : Int) < 224) = false := by simp; omega
  have d3 : decide ((240 : Int) <= (x : Int)) = false := by simp; omega
  go_enter func166, ntmps166
  go_wp2_with (first | (go_at_call 202; refine (ct _ _ (by omega)).mono ?_; rintro e w' ⟨rfl, rfl⟩))
  all_goals go_ret
  all_goals first
    | (obtain rfl : r = 3 := by have := hr.out; split at this <;> omega
       exact ⟨rfl, rfl⟩)
    | (obtain rfl : r = 0 := by have := hr.out; split at this <;> omega
       exact ⟨rfl, rfl⟩)
theorem four_no1 (s : ByteArray) (i : Nat) (h : i < s.size) (hs : s.size <= 140737488351232) (T : Int -> Bool) (ct : ∀ j w, 0 <= j -> Calls prog 202 #[.string s, .int .i64 j] w fun r w' => r = .returned (.bool (T j)) /\ w' = w) (t1 : T (i + 1) = false)
    (x : Nat) (hx : s[i].toNat = x) (ha : (240 : Int) <= (x : Int)) (hb : (x : Int) < 245) (w : World) :
    Calls prog 166 #[.string s, .int .i64 i] w fun e w' => e = .returned (.int .i64 0) /\ w' = w := by
  have d0 : ¬ (x : Int) < 128 := by omega
  have d1 : (194 : Int) <= (x : Int) := by omega
  have d4 : decide ((x : Int) < 224) = false := by simp; omega
  have d2 : (224 : Int) <= (x : Int) := by omega
  have d5 : decide ((x : Int) < 240) = false := by simp; omega
  go_enter func166, ntmps166
  go_wp2_with (first | (go_at_call 202; refine (ct _ _ (by omega)).mono ?_; rintro e w' ⟨rfl, rfl⟩))
  go_ret
  exact ⟨rfl, rfl⟩
theorem four_no2 (s : ByteArray) (i : Nat) (h : i < s.size) (hs : s.size <= 140737488351232) (T : Int -> Bool) (ct : ∀ j w, 0 <= j -> Calls prog 202 #[.string s, .int .i64 j] w fun r w' => r = .returned (.bool (T j)) /\ w' = w) (t1 : T (i + 1) = true) (t2 : T (i + 2) = false)
    (x : Nat) (hx : s[i].toNat = x) (ha : (240 : Int) <= (x : Int)) (hb : (x : Int) < 245) (w : World) :
    Calls prog 166 #[.string s, .int .i64 i] w fun e w' => e = .returned (.int .i64 0) /\ w' = w := by
  have d0 : ¬ (x : Int) < 128 := by omega
  have d1 : (194 : Int) <= (x : Int) := by omega
  have d4 : decide ((x : Int) < 224) = false := by simp; omega
  have d2 : (224 : Int) <= (x : Int) := by omega
  have d5 : decide ((x : Int) < 240) = false := by simp; omega
  go_enter func166, ntmps166
  go_wp2_with (first | (go_at_call 202; refine (ct _ _ (by omega)).mono ?_; rintro e w' ⟨rfl, rfl⟩))
  go_ret
  exact ⟨rfl, rfl⟩
theorem four_no3 (s : ByteArray) (i : Nat) (h : i < s.size) (hs : s.size <= 140737488351232) (T : Int -> Bool) (ct : ∀ j w, 0 <= j -> Calls prog 202 #[.string s, .int .i64 j] w fun r w' => r = .returned (.bool (T j)) /\ w' = w) (t1 : T (i + 1) = true) (t2 : T (i + 2) = true) (t3 : T (i + 3) = false)
    (x : Nat) (hx : s[i].toNat = x) (ha : (240 : Int) <= (x : Int)) (hb : (x : Int) < 245) (w : World) :
    Calls prog 166 #[.string s, .int .i64 i] w fun e w' => e = .returned (.int .i64 0) /\ w' = w := by
  have d0 : ¬ (x : Int) < 128 := by omega
  have d1 : (194 : Int) <= (x : Int) := by omega
  have d4 : decide ((x : Int) < 224) = false := by simp; omega
  have d2 : (224 : Int) <= (x : Int) := by omega
  have d5 : decide ((x : Int) < 240) = false := by simp; omega
  go_enter func166, ntmps166
  go_wp2_with (first | (go_at_call 202; refine (ct _ _ (by omega)).mono ?_; rintro e w' ⟨rfl, rfl⟩))
  go_ret
  exact ⟨rfl, rfl⟩
theorem four_yes (s : ByteArray) (i : Nat) (h : i < s.size) (h1 : i + 1 < s.size) (hs : s.size <= 140737488351232) (T : Int -> Bool) (ct : ∀ j w, 0 <= j -> Calls prog 202 #[.string s, .int .i64 j] w fun r w' => r = .returned (.bool (T j)) /\ w' = w) (t1 : T (i + 1) = true) (t2 : T (i + 2) = true) (t3 : T (i + 3) = true)
    (x : Nat) (hx : s[i].toNat = x) (y : Nat) (hy : s[i + 1].toNat = y) (ha : (240 : Int) <= (x : Int)) (hb : (x : Int) < 245) (r : Int) (hr : Hid (r = if (x = 240 /\ y < 144) \/ (x = 244 /\ 144 <= y) then 0 else 4)) (w : World) :
    Calls prog 166 #[.string s, .int .i64 i] w fun e w' => e = .returned (.int .i64 r) /\ w' = w := by
  have d0 : ¬ (x : Int) < 128 := by omega
  have d1 : (194 : Int) <= (x : Int) := by omega
  have d4 : decide ((x : Int) < 224) = false := by simp; omega
  have d2 : (224 : Int) <= (x : Int) := by omega
  have d5 : decide ((x : Int) < 240) = false := by simp; omega
  go_enter func166, ntmps166
  go_wp2_with (first | (go_at_call 202; refine (ct _ _ (by omega)).mono ?_; rintro e w' ⟨rfl, rfl⟩))
  all_goals go_ret
  all_goals first
    | (obtain rfl : r = 4 := by have := hr.out; split at this <;> omega
       exact ⟨rfl, rfl⟩)
    | (obtain rfl : r = 0 := by have := hr.out; split at this <;> omega
       exact ⟨rfl, rfl⟩)
theorem tl_of {s : ByteArray} {i : Nat} (h : tl s i = true) : 128 <= at' s i /\ at' s i < 192 := (tl_iff s i).mp h
theorem not_tl {s : ByteArray} {i : Nat} (h : tl s i = false) : ¬ (128 <= at' s i /\ at' s i < 192) := fun e => by rw [(tl_iff s i).mpr e] at h; cases h
theorem length_c (s : ByteArray) (i : Nat) (h : i < s.size) (hs : s.size <= 140737488351232) (w : World) :
    Calls prog 166 #[.string s, .int .i64 i] w fun r w' => r = .returned (.int .i64 (len s i)) /\ w' = w := by
  have ea := at_get s i h
  have ct : ∀ j w, 0 <= j -> Calls prog 202 #[.string s, .int .i64 j] w fun r w' => r = .returned (.bool (tl s j.toNat)) /\ w' = w := fun j w hj => tail_j s j hj w
  have k1 : tl s ((i : Int) + 1).toNat = tl s (i + 1) := by congr 1
  have k2 : tl s ((i : Int) + 2).toNat = tl s (i + 2) := by congr 1
  have k3 : tl s ((i : Int) + 3).toNat = tl s (i + 3) := by congr 1
  have L := len_eq s i
  unfold len4 at L
  by_cases a1 : at' s i < 128
  · have e : len s i = 1 := by rw [L]; simp [a1]
    rw [e]
    exact low_c s i h (by omega) w
  by_cases a2 : at' s i < 194
  · have e : len s i = 0 := by rw [L]; (repeat' split); all_goals omega
    rw [e]
    exact none_low s i h (by omega) (by omega) w
  by_cases a3 : at' s i < 224
  · cases t1 : tl s (i + 1) with
    | false =>
      have n1 := not_tl t1
      have e : len s i = 0 := by rw [L]; (repeat' split); all_goals omega
      rw [e]
      exact two_no s i h hs (by omega) (by omega) t1 w
    | true =>
      have n1 := tl_of t1
      have e : len s i = 2 := by rw [L]; (repeat' split); all_goals omega
      rw [e]
      exact two_yes s i h hs (by omega) (by omega) t1 w
  by_cases a4 : at' s i < 240
  · cases t1 : tl s (i + 1) with
    | false =>
      have n1 := not_tl t1
      have e : len s i = 0 := by rw [L]; (repeat' split); all_goals omega
      rw [e]
      exact three_no s i h hs (by omega) (by omega) t1 w
    | true =>
      have n1 := tl_of t1
      cases t2 : tl s (i + 2) with
      | false =>
        have n2 := not_tl t2
        have e : len s i = 0 := by rw [L]; (repeat' split); all_goals omega
        rw [e]
        exact three_cut s i h hs (by omega) (by omega) _ ct (k1.trans t1) (k2.trans t2) w
      | true =>
        have n2 := tl_of t2
        have h1 := tl_in t1
        have eb := at_get s (i + 1) h1
        have er : ((len s i : Nat) : Int) = if (at' s i = 224 /\ at' s (i + 1) < 160) \/ (at' s i = 237 /\ 160 <= at' s (i + 1)) then 0 else 3 := by
          rw [L]
          repeat' split
          all_goals omega
        exact three_yes s i h h1 hs _ ct (k1.trans t1) (k2.trans t2) _ ea.symm _ eb.symm (by omega) (by omega) _ er w
  by_cases a5 : at' s i < 245
  · cases t1 : tl s (i + 1) with
    | false =>
      have n1 := not_tl t1
      have e : len s i = 0 := by rw [L]; (repeat' split); all_goals omega
      rw [e]
      exact four_no1 s i h hs _ ct (k1.trans t1) _ ea.symm (by omega) (by omega) w
    | true =>
      have n1 := tl_of t1
      cases t2 : tl s (i + 2) with
      | false =>
        have n2 := not_tl t2
        have e : len s i = 0 := by rw [L]; (repeat' split); all_goals omega
        rw [e]
        exact four_no2 s i h hs _ ct (k1.trans t1) (k2.trans t2) _ ea.symm (by omega) (by omega) w
      | true =>
        have n2 := tl_of t2
        cases t3 : tl s (i + 3) with
        | false =>
          have n3 := not_tl t3
          have e : len s i = 0 := by rw [L]; (repeat' split); all_goals omega
          rw [e]
          exact four_no3 s i h hs _ ct (k1.trans t1) (k2.trans t2) (k3.trans t3) _ ea.symm (by omega) (by omega) w
        | true =>
          have n3 := tl_of t3
          have h1 := tl_in t1
          have eb := at_get s (i + 1) h1
          have er : ((len s i : Nat) : Int) = if (at' s i = 240 /\ at' s (i + 1) < 144) \/ (at' s i = 244 /\ 144 <= at' s (i + 1)) then 0 else 4 := by
            rw [L]
            repeat' split
            all_goals omega
          exact four_yes s i h h1 hs _ ct (k1.trans t1) (k2.trans t2) (k3.trans t3) _ ea.symm _ eb.symm (by omega) (by omega) _ er w
  · have e : len s i = 0 := by rw [L]; (repeat' split); all_goals omega
    rw [e]
    exact none_high s i h (by omega) w
end Go.Proofs.YtaiackmmmlhgbaaGreat.ULength
namespace Go.Proofs.YtaiackmmmlhgbaaGreat.UValid
open Go.ChangeShapes Go.WideShapes Go.ChangeAt Go.RowKit UBase ULength
theorem verr_none {s : ByteArray} (h : bad s 0 = none) : vat s = 0 /\ verr s = 0 := by unfold vat verr; rw [h]; simp
theorem verr_some {s : ByteArray} {i : Nat} (h : bad s 0 = some i) : vat s = i /\ verr s = 300 := by unfold vat verr; rw [h]; simp
theorem rvalid_c (s : ByteArray) (hs : s.size <= 140737488351232) (w : World) :
    Calls prog 115 #[.string s] w fun r w' => r = .returned (.tuple #[.int .i64 (vat s), .int .i64 (verr s)]) /\ w' = w := by
  go_enter func115, ntmps115
  go_wp2
  go_loop [4] (fun i => ∃ n : Nat, n <= s.size /\ i = .int .i64 n /\ bad s 0 = bad s n) (fun i => s.size - (intOf i).toNat)
  case atStart => exact ⟨0, by omega, rfl, rfl⟩
  case round =>
    obtain ⟨n, hn, rfl, hb⟩ := hrel
    have HB : Hid (bad s 0 = bad s n) := hb
    clear hb
    by_cases hlt : n < s.size
    · by_cases hz : len s n = 0
      · have hz' : (len s n : Int) = 0 := by omega
        go_wp2_with (first | (go_at_call 166; refine (length_c s n hlt hs _).mono ?_; rintro e w' ⟨rfl, rfl⟩))
        go_ret2
        have e := verr_some (HB.out.trans (bad_here hlt hz))
        rw [e.1, e.2]
        exact ⟨rfl, rfl⟩
      · have hz' : ((len s n : Int) == 0) = false := by simp; exact hz
        have hi := len_in hlt
        go_wp2_with (first | (go_at_call 166; refine (length_c s n hlt hs _).mono ?_; rintro e w' ⟨rfl, rfl⟩))
        go_round
        case rel => exact ⟨n + len s n, hi, by go_num, HB.out.trans (bad_step hlt hz)⟩
        case measure => simp only [intOf]; omega
    · go_wp2
      go_ret2
      have e := verr_none (HB.out.trans (bad_end hlt))
      rw [e.1, e.2]
      exact ⟨rfl, rfl⟩
end Go.Proofs.YtaiackmmmlhgbaaGreat.UValid
namespace Go.Proofs.YtaiackmmmlhgbaaGreat.UOwn
open Go.ChangeShapes Go.WideShapes Go.ChangeAt Go.RowKit UBase USmall UValid
theorem at_extract (s : ByteArray) (i n k : Nat) (hn : n <= s.size) (hk : i + k < n) : at' (s.extract i n) k = at' s (i + k) := by
  rw [at_list, at_list, ByteArray.data_extract, Array.toList_extract, List.extract_eq_take_drop, List.getElem?_take, List.getElem?_drop, if_pos (by omega)]
theorem at_behind (s : ByteArray) (i k : Nat) : at' (s.extract i s.size) k = at' s (i + k) := by
  by_cases h : i + k < s.size
  · exact at_extract s i s.size k (Nat.le_refl _) h
  · rw [at_out s _ h, at_out _ k (by simp; omega)]
theorem rep_behind (s : ByteArray) (i : Nat) : rep (s.extract i s.size) 0 = rep s i := by
  unfold rep
  rw [at_behind, at_behind, at_behind]
  rfl
theorem valid_c (s : ByteArray) (hs : s.size <= 9223372036854775807) (w : World) :
    Calls prog 107 #[.string s] w fun r w' => r = .returned (.tuple #[.int .i64 (vat s), .int .i64 (verr s)]) /\ ∃ p, w' = w.iter s p := by
  go_enter func107, ntmps107
  go_wp2
  go_loopw [] (fun wr => ∃ n : Nat, n <= s.size /\ wr = w.iter s n /\ bad s 0 = bad s n) (fun wr => s.size - wr.iterPos w.heap.size)
  case atStart => exact ⟨0, by omega, rfl, rfl⟩
  case round =>
    obtain ⟨n, hn, rfl, hb⟩ := hrel
    have HB : Hid (bad s 0 = bad s n) := hb
    clear hb
    by_cases hlt : n < s.size
    · have hnx : ∀ ty, (Instr.next (.pointer (some ⟨w.heap.size, 0, none⟩)) true ty).run prog (w.iter s n) = _ := fun ty => run_next_any w s n ty hlt
      have hd := dec_len s n
      obtain ⟨hd1, hd2, _⟩ := hd
      have hi := len_in hlt
      have cp : ∀ w, Calls prog 161 #[.string (s.extract n s.size)] w fun r w' => r = .returned (.bool (rep s n)) /\ w' = w := fun w => by
        rw [<- rep_behind]
        exact pre_c _ (by simp; omega) w
      by_cases hz : len s n = 0
      · obtain ⟨e1, e2⟩ := hd1.mp hz
        go_wp2_with (first | (go_at_call 161; refine (cp _).mono ?_; rintro e w' ⟨rfl, rfl⟩))
        go_ret2
        have e := verr_some (HB.out.trans (bad_here hlt hz))
        rw [e.1, e.2]
        exact ⟨rfl, _, rfl⟩
      · have hw := hd2 hz
        by_cases hf : (Utf8.decode s n).1 = 65533
        · have e2 : rep s n = true := by
            cases h : rep s n with
            | true => rfl
            | false => exact absurd (hd1.mpr ⟨hf, h⟩) hz
          go_wp2_with (first | (go_at_call 161; refine (cp _).mono ?_; rintro e w' ⟨rfl, rfl⟩))
          go_roundw
          case rel => exact ⟨n + len s n, hi, rfl, HB.out.trans (bad_step hlt hz)⟩
          case measure => simp; omega
        · have hf' : (((Utf8.decode s n).1 : Int) == 65533) = false := by simp; omega
          go_wp2
          go_roundw
          case rel => exact ⟨n + len s n, hi, rfl, HB.out.trans (bad_step hlt hz)⟩
          case measure => simp; omega
    · have hnx : ∀ ty, (Instr.next (.pointer (some ⟨w.heap.size, 0, none⟩)) true ty).run prog (w.iter s n) = _ := fun ty => run_next_end w s n ty hlt
      go_wp2
      go_ret2
      have e := verr_none (HB.out.trans (bad_end hlt))
      rw [e.1, e.2]
      exact ⟨rfl, _, rfl⟩
end Go.Proofs.YtaiackmmmlhgbaaGreat.UOwn
namespace Go.Proofs.YtaiackmmmlhgbaaGreat.UWord
open Go.ChangeShapes Go.WideShapes Go.ChangeAt Go.RowKit UBase USmall
theorem size_empty {s : ByteArray} (h : s.size = 0) : s = ByteArray.empty := by
  apply ByteArray.ext
  apply Array.eq_empty_of_size_eq_zero
  exact h
theorem word_of {s : ByteArray} {j : Nat} (h1 : 0 < s.size) (h2 : s.size <= 32) (h3 : let' (at' s 0) = true) (h4 : ∀ i, i < s.size -> sign j (at' s i) = true) : word s j = true := by
  unfold word
  simp only [decide_eq_true h1, decide_eq_true h2, h3, Bool.true_and]
  exact decide_eq_true h4
theorem word_not {s : ByteArray} {j : Nat} (h : ¬ (0 < s.size /\ s.size <= 32 /\ let' (at' s 0) = true)) : word s j = false := by
  cases e : word s j with
  | false => rfl
  | true =>
    unfold word at e
    simp only [Bool.and_eq_true, decide_eq_true_eq] at e
    exact absurd ⟨e.1, e.2.1, e.2.2.1⟩ h
theorem word_bad {s : ByteArray} {j i : Nat} (hi : i < s.size) (h : sign j (at' s i) = false) : word s j = false := by
  cases e : word s j with
  | false => rfl
  | true =>
    unfold word at e
    simp only [Bool.and_eq_true, decide_eq_true_eq] at e
    rw [e.2.2.2 i hi] at h
    cases h
theorem sign_let {j c : Nat} (h : let' c = true) : sign j c = true := by unfold sign; rw [h]; rfl
theorem sign_dig {j c : Nat} (h : dig c = true) : sign j c = true := by unfold sign; rw [h]; simp
theorem sign_joint {j c : Nat} (h : ((c : Int) != (j : Int)) = false) : sign j c = true := by
  have e : c = j := by simp at h; omega
  unfold sign
  rw [decide_eq_true e]
  simp
theorem sign_none {j c : Nat} (h1 : ¬ let' c = true) (h2 : ¬ dig c = true) (h : ((c : Int) != (j : Int)) = true) : sign j c = false := by
  have e : ¬ c = j := by simp at h; omega
  unfold sign
  simp [h1, h2, e]
theorem sign_rng {j c : Nat} (h : (97 <= c /\ c <= 122) \/ (48 <= c /\ c <= 57)) : sign j c = true := by
  unfold sign let' dig
  simp
  omega
theorem sign_not {j c : Nat} (h1 : ¬ (97 <= c /\ c <= 122)) (h2 : ¬ (48 <= c /\ c <= 57)) (h : ((c : Int) != (j : Int)) = true) : sign j c = false := by
  have e : ¬ c = j := by simp at h; omega
  unfold sign let' dig
  simp [e]
  omega
theorem own_empty (j : Int) (w : World) :
    Calls prog 225 #[.string ByteArray.empty, .int .u8 j] w fun r w' => r = .returned (.bool false) /\ w' = w := by
  go_enter func225, ntmps225
  go_wp2
  go_ret
  exact ⟨rfl, rfl⟩
theorem own_long (s : ByteArray) (h : 32 < s.size) (hs : s.size <= 9223372036854775807) (j : Int) (w : World) :
    Calls prog 225 #[.string s, .int .u8 j] w fun r w' => r = .returned (.bool false) /\ w' = w := by
  have h0 : 0 < s.size := by omega
  have he : ¬ s = ByteArray.empty := fun h => by subst h; revert h0; decide
  have he2 : ((s.size : Int) == 0) = false := by simp; omega
  go_enter func225, ntmps225
  go_wp2
  go_ret
  exact ⟨rfl, rfl⟩
theorem own_first (s : ByteArray) (h0 : 0 < s.size) (h : s.size <= 32) (hl : let' s[0].toNat = false) (j : Int) (w : World) :
    Calls prog 225 #[.string s, .int .u8 j] w fun r w' => r = .returned (.bool false) /\ w' = w := by
  have he : ¬ s = ByteArray.empty := fun h => by subst h; revert h0; decide
  have he2 : ((s.size : Int) == 0) = false := by simp; omega
  have he3 : decide ((32 : Int) < (s.size : Int)) = false := by simp; omega
  go_enter func225, ntmps225
  go_wp2_with (first | (go_at_call 228; refine (letter_c _ (s[0].toNat) rfl _).mono ?_; rintro e w' ⟨rfl, rfl⟩))
  go_ret
  exact ⟨rfl, rfl⟩
theorem own_go (s : ByteArray) (h0 : 0 < s.size) (h : s.size <= 32) (hl : let' s[0].toNat = true) (j : Nat) (w : World) :
    Calls prog 225 #[.string s, .int .u8 j] w fun r w' => r = .returned (.bool (word s j)) /\ w' = w := by
  have he : ¬ s = ByteArray.empty := fun h => by subst h; revert h0; decide
  have he2 : ((s.size : Int) == 0) = false := by simp; omega
  have he3 : decide ((32 : Int) < (s.size : Int)) = false := by simp; omega
  go_enter func225, ntmps225
  go_wp2_with (first | (go_at_call 228; refine (letter_c _ (s[0].toNat) rfl _).mono ?_; rintro e w' ⟨rfl, rfl⟩))
  go_loop [22] (fun i => ∃ n : Nat, n <= s.size /\ i = .int .i64 n /\ ∀ i, i < n -> sign j (at' s i) = true) (fun i => s.size - (intOf i).toNat)
  case atStart => exact ⟨0, by omega, rfl, fun i hi => by omega⟩
  case round =>
    obtain ⟨n, hn, rfl, ha⟩ := hrel
    have HA : Hid (∀ i, i < n -> sign j (at' s i) = true) := ha
    clear ha
    by_cases hlt : n < s.size
    · have E : Hid (at' s n = (s[n]'hlt).toNat) := at_get s n hlt
      go_wp2_with (first
        | (go_at_call 228; refine (letter_c _ (s[n].toNat) rfl _).mono ?_; rintro e w' ⟨rfl, rfl⟩)
        | (go_at_call 229; refine (digit_c _ (s[n].toNat) rfl _).mono ?_; rintro e w' ⟨rfl, rfl⟩))
      · have g : sign j s[n].toNat = true := sign_let (by assumption)
        go_round
        case rel =>
          refine ⟨n + 1, by omega, by go_num, fun i hi => ?_⟩
          by_cases c : i < n
          · exact HA.out i c
          · obtain rfl : i = n := by omega
            rw [E.out]
            exact g
        case measure => simp only [intOf]; omega
      · have g : sign j s[n].toNat = true := sign_dig (by assumption)
        go_round
        case rel =>
          refine ⟨n + 1, by omega, by go_num, fun i hi => ?_⟩
          by_cases c : i < n
          · exact HA.out i c
          · obtain rfl : i = n := by omega
            rw [E.out]
            exact g
        case measure => simp only [intOf]; omega
      · have g : sign j s[n].toNat = false := sign_none (by assumption) (by assumption) (by assumption)
        go_ret
        have e : word s j = false := word_bad hlt (by rw [E.out]; exact g)
        rw [e]
        exact ⟨rfl, rfl⟩
      · have g : sign j s[n].toNat = true := sign_joint (by assumption)
        go_round
        case rel =>
          refine ⟨n + 1, by omega, by go_num, fun i hi => ?_⟩
          by_cases c : i < n
          · exact HA.out i c
          · obtain rfl : i = n := by omega
            rw [E.out]
            exact g
        case measure => simp only [intOf]; omega
    · go_wp2
      go_ret
      have e : word s j = true := word_of h0 h (by rw [at_get s 0 h0]; exact hl) (fun i hi => HA.out i (by omega))
      rw [e]
      exact ⟨rfl, rfl⟩
theorem own_c (s : ByteArray) (hs : s.size <= 9223372036854775807) (j : Nat) (w : World) :
    Calls prog 225 #[.string s, .int .u8 j] w fun r w' => r = .returned (.bool (word s j)) /\ w' = w := by
  by_cases h0 : 0 < s.size
  · by_cases h : s.size <= 32
    · have e := at_get s 0 h0
      cases hl : let' s[0].toNat with
      | true => exact own_go s h0 h hl j w
      | false =>
        rw [word_not (by rw [e, hl]; simp)]
        exact own_first s h0 h hl j w
    · rw [word_not (by omega)]
      exact own_long s (by omega) hs j w
  · rw [word_not (by omega)]
    obtain rfl := size_empty (by omega : s.size = 0)
    exact own_empty j w
theorem ref_empty (j : Int) (w : World) :
    Calls prog 167 #[.string ByteArray.empty, .int .u8 j] w fun r w' => r = .returned (.bool false) /\ w' = w := by
  go_enter func167, ntmps167
  go_wp2
  go_ret
  exact ⟨rfl, rfl⟩
theorem ref_long (s : ByteArray) (h : 32 < s.size) (hs : s.size <= 9223372036854775807) (j : Int) (w : World) :
    Calls prog 167 #[.string s, .int .u8 j] w fun r w' => r = .returned (.bool false) /\ w' = w := by
  have he2 : decide ((s.size : Int) < 1) = false := by simp; omega
  go_enter func167, ntmps167
  go_wp2
  go_ret
  exact ⟨rfl, rfl⟩
theorem ref_low (s : ByteArray) (h0 : 0 < s.size) (h : s.size <= 32) (hl : (s[0].toNat : Int) < 97) (j : Int) (w : World) :
    Calls prog 167 #[.string s, .int .u8 j] w fun r w' => r = .returned (.bool false) /\ w' = w := by
  have he2 : decide ((s.size : Int) < 1) = false := by simp; omega
  have he3 : decide ((32 : Int) < (s.size : Int)) = false := by simp; omega
  go_enter func167, ntmps167
  go_wp2
  go_ret
  exact ⟨rfl, rfl⟩
theorem ref_high (s : ByteArray) (h0 : 0 < s.size) (h : s.size <= 32) (hl : (122 : Int) < (s[0].toNat : Int)) (j : Int) (w : World) :
    Calls prog 167 #[.string s, .int .u8 j] w fun r w' => r = .returned (.bool false) /\ w' = w := by
  have he2 : decide ((s.size : Int) < 1) = false := by simp; omega
  have he3 : decide ((32 : Int) < (s.size : Int)) = false := by simp; omega
  have he4 : decide ((s[0].toNat : Int) < 97) = false := by simp; omega
  go_enter func167, ntmps167
  go_wp2
  go_ret
  exact ⟨rfl, rfl⟩
theorem ref_go (s : ByteArray) (h0 : 0 < s.size) (h : s.size <= 32) (hl : let' s[0].toNat = true) (hl1 : decide ((s[0].toNat : Int) < 97) = false) (hl2 : decide ((122 : Int) < (s[0].toNat : Int)) = false) (j : Nat) (w : World) :
    Calls prog 167 #[.string s, .int .u8 j] w fun r w' => r = .returned (.bool (word s j)) /\ w' = w := by
  have he2 : decide ((s.size : Int) < 1) = false := by simp; omega
  have he3 : decide ((32 : Int) < (s.size : Int)) = false := by simp; omega
  have HL : Hid (let' s[0].toNat = true) := hl
  clear hl
  go_enter func167, ntmps167
  go_wp2
  go_loop [5] (fun i => ∃ n : Nat, 1 <= n /\ n <= s.size /\ i = .int .i64 n /\ ∀ i, i < n -> sign j (at' s i) = true) (fun i => s.size - (intOf i).toNat)
  case atStart =>
    refine ⟨1, by omega, by omega, rfl, fun i hi => ?_⟩
    obtain rfl : i = 0 := by omega
    rw [at_get s 0 h0]
    exact sign_let HL.out
  case round =>
    obtain ⟨n, hn1, hn, rfl, ha⟩ := hrel
    have HA : Hid (∀ i, i < n -> sign j (at' s i) = true) := ha
    clear ha
    by_cases hlt : n < s.size
    · have E : Hid (at' s n = (s[n]'hlt).toNat) := at_get s n hlt
      by_cases hj : s[n].toNat = j
      · have q : ((s[n].toNat : Int) != (j : Int)) = false := by simp; omega
        have g : sign j s[n].toNat = true := sign_joint q
        have G : Hid (sign j s[n].toNat = true) := g
        clear hj g
        go_wp2
        all_goals have g := G.out
        all_goals (
          go_round
          case rel =>
            refine ⟨n + 1, by omega, by omega, by go_num, fun i hi => ?_⟩
            by_cases c : i < n
            · exact HA.out i c
            · obtain rfl : i = n := by omega
              rw [E.out]
              exact g
          case measure => simp only [intOf]; omega)
      · have q : ((s[n].toNat : Int) != (j : Int)) = true := by simp; omega
        have Q : Hid (((s[n].toNat : Int) != (j : Int)) = true) := q
        clear hj
        go_wp2
        all_goals first
          | (have g : sign j s[n].toNat = true := sign_rng (by omega)
             go_round
             case rel =>
               refine ⟨n + 1, by omega, by omega, by go_num, fun i hi => ?_⟩
               by_cases c : i < n
               · exact HA.out i c
               · obtain rfl : i = n := by omega
                 rw [E.out]
                 exact g
             case measure => simp only [intOf]; omega)
          | (have g : sign j s[n].toNat = false := sign_not (by omega) (by omega) Q.out
             go_ret
             have e : word s j = false := word_bad hlt (by rw [E.out]; exact g)
             rw [e]
             exact ⟨rfl, rfl⟩)
    · go_wp2
      go_ret
      have e : word s j = true := word_of h0 h (by rw [at_get s 0 h0]; exact HL.out) (fun i hi => HA.out i (by omega))
      rw [e]
      exact ⟨rfl, rfl⟩
theorem ref_c (s : ByteArray) (hs : s.size <= 9223372036854775807) (j : Nat) (w : World) :
    Calls prog 167 #[.string s, .int .u8 j] w fun r w' => r = .returned (.bool (word s j)) /\ w' = w := by
  by_cases h0 : 0 < s.size
  · by_cases h : s.size <= 32
    · have e := at_get s 0 h0
      by_cases l1 : s[0].toNat < 97
      · rw [word_not (by rw [e]; unfold let'; simp; omega)]
        exact ref_low s h0 h (by omega) j w
      · by_cases l2 : 122 < s[0].toNat
        · rw [word_not (by rw [e]; unfold let'; simp; omega)]
          exact ref_high s h0 h (by omega) j w
        · exact ref_go s h0 h (by unfold let'; simp; omega) (by simp; omega) (by simp; omega) j w
    · rw [word_not (by omega)]
      exact ref_long s (by omega) hs j w
  · rw [word_not (by omega)]
    obtain rfl := size_empty (by omega : s.size = 0)
    exact ref_empty j w
theorem tag_c (s : ByteArray) (hs : s.size <= 9223372036854775807) (w : World) :
    Calls prog 215 #[.string s] w fun r w' => r = .returned (.bool (word s 45)) /\ w' = w := by
  go_enter func215, ntmps215
  go_wp2_with (first | (go_at_call 225; refine (own_c s hs 45 _).mono ?_; rintro e w' ⟨rfl, rfl⟩))
  go_ret
  exact ⟨rfl, rfl⟩
theorem rtag_c (s : ByteArray) (hs : s.size <= 9223372036854775807) (w : World) :
    Calls prog 116 #[.string s] w fun r w' => r = .returned (.bool (word s 45)) /\ w' = w := by
  go_enter func116, ntmps116
  go_wp2_with (first | (go_at_call 167; refine (ref_c s hs 45 _).mono ?_; rintro e w' ⟨rfl, rfl⟩))
  go_ret
  exact ⟨rfl, rfl⟩
end Go.Proofs.YtaiackmmmlhgbaaGreat.UWord

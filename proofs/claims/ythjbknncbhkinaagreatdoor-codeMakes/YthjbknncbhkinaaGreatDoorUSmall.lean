/- Contracts of the small functions: bytes, continuation bytes, the length of a character, beginnings. -/
import Derived.Test.YthjbknncbhkinaaGreatDoorUBase
import Derived.WalkSpells
import Derived.Laws.BitsAllLaws
namespace Go.Proofs.YthjbknncbhkinaaGreatDoor.USmall
open Go.ChangeShapes Go.WideShapes Go.ChangeAt Go.RowKit Go.Proofs.YthjbknncbhkinaaGreatDoor.UBase
set_option linter.unusedVariables false

theorem num_c (e : Int) (w : World) :
    Calls Tryz.prog 10 #[.int .i64 e] w fun r w' => r = .returned (.int .i64 e) ∧ w' = w := by
  go_enter Tryz.func10, Tryz.ntmps10
  go_wp2
  go_ret
  exact ⟨rfl, rfl⟩
theorem letter_c (c : Int) (n : Nat) (h : c = n) (w : World) :
    Calls Tryz.prog 151 #[.int .u8 c] w fun r w' => r = .returned (.bool (let' n)) ∧ w' = w := by
  subst h
  go_enter Tryz.func151, Tryz.ntmps151
  go_wp2
  · have h : (97 : Int) ≤ n := by assumption
    go_ret
    have e : let' n = decide ((n : Int) ≤ 122) := by unfold let'; simp only [decide_eq_true (show 97 ≤ n by omega), Bool.true_and]; exact decide_eq_decide.mpr (by omega)
    rw [e]
    exact ⟨rfl, rfl⟩
  · have h : (n : Int) < 97 := by assumption
    go_ret
    have e : let' n = false := by unfold let'; simp; omega
    rw [e]
    exact ⟨rfl, rfl⟩
theorem digit_c (c : Int) (n : Nat) (h : c = n) (w : World) :
    Calls Tryz.prog 152 #[.int .u8 c] w fun r w' => r = .returned (.bool (dig n)) ∧ w' = w := by
  subst h
  go_enter Tryz.func152, Tryz.ntmps152
  go_wp2
  · have h : (48 : Int) ≤ n := by assumption
    go_ret
    have e : dig n = decide ((n : Int) ≤ 57) := by unfold dig; simp only [decide_eq_true (show 48 ≤ n by omega), Bool.true_and]; exact decide_eq_decide.mpr (by omega)
    rw [e]
    exact ⟨rfl, rfl⟩
  · have h : (n : Int) < 48 := by assumption
    go_ret
    have e : dig n = false := by unfold dig; simp; omega
    rw [e]
    exact ⟨rfl, rfl⟩
theorem tail_in (s : ByteArray) (i : Nat) (h : i < s.size) (w : World) :
    Calls Tryz.prog 153 #[.string s, .int .i64 i] w fun r w' => r = .returned (.bool (tl s i)) ∧ w' = w := by
  have H : Hid (at' s i = (s[i]'h).toNat) := at_get s i h
  go_enter Tryz.func153, Tryz.ntmps153
  go_wp2
  · have h1 : (128 : Int) ≤ (s[i]'h).toNat := by assumption
    go_ret
    have e : tl s i = decide (((s[i]'h).toNat : Int) < 192) := by
      unfold tl
      rw [H.out]
      simp only [decide_eq_true h, decide_eq_true (show 128 ≤ (s[i]'h).toNat by omega), Bool.true_and]
      exact decide_eq_decide.mpr (by omega)
    rw [e]
    exact ⟨rfl, rfl⟩
  · have h1 : ((s[i]'h).toNat : Int) < 128 := by assumption
    go_ret
    have e : tl s i = false := by unfold tl; rw [H.out]; simp; omega
    rw [e]
    exact ⟨rfl, rfl⟩
theorem tail_out (s : ByteArray) (i : Nat) (h : ¬ i < s.size) (w : World) :
    Calls Tryz.prog 153 #[.string s, .int .i64 i] w fun r w' => r = .returned (.bool (tl s i)) ∧ w' = w := by
  have e : tl s i = false := by unfold tl; simp [h]
  rw [e]
  go_enter Tryz.func153, Tryz.ntmps153
  go_wp2
  go_ret
  exact ⟨rfl, rfl⟩
theorem tail_c (s : ByteArray) (j : Int) (i : Nat) (hj : j = i) (w : World) :
    Calls Tryz.prog 153 #[.string s, .int .i64 j] w fun r w' => r = .returned (.bool (tl s i)) ∧ w' = w := by
  subst hj
  by_cases h : i < s.size
  · exact tail_in s i h w
  · exact tail_out s i h w
theorem tail_j (s : ByteArray) (j : Int) (hj : 0 ≤ j) (w : World) :
    Calls Tryz.prog 153 #[.string s, .int .i64 j] w fun r w' => r = .returned (.bool (tl s j.toNat)) ∧ w' = w :=
  tail_c s j j.toNat (by omega) w
theorem and192 : ∀ n : Nat, n < 256 → (bits .and .u8 (n : Int) 192 != 128) = !(decide (128 ≤ n) && decide (n < 192)) := by decide +kernel
theorem at_list (s : ByteArray) (i : Nat) : at' s i = ((s.data.toList)[i]?.getD 0).toNat := by
  by_cases h : i < s.size
  · have hl : i < s.data.toList.length := by rw [Array.length_toList]; exact h
    rw [at_get s i h, List.getElem?_eq_getElem hl, Array.getElem_toList]
    rfl
  · have hl : s.data.toList.length ≤ i := by rw [Array.length_toList]; exact Nat.le_of_not_lt h
    rw [at_out s i h, List.getElem?_eq_none hl]
    rfl
theorem rep_list (d : ByteArray) (h3 : 3 ≤ d.size) : ((d.extract 0 3).toList == [239, 191, 189]) = rep d 0 := by
  rw [ByteArray.toList_eq, ByteArray.data_extract, Array.toList_extract]
  unfold rep
  rw [at_list d 0, at_list d (0 + 1), at_list d (0 + 2)]
  have hl : d.data.toList.length = d.size := Array.length_toList
  generalize d.data.toList = L at *
  match L, hl with
  | x :: y :: z :: r, _ =>
    rw [Bool.eq_iff_iff]
    simp [← UInt8.toNat_inj]
  | [], hl => simp at hl; omega
  | [_], hl => simp at hl; omega
  | [_, _], hl => simp at hl; omega
theorem pre_long (d : ByteArray) (h : d.size ≤ 9223372036854775807) (h3 : 3 ≤ d.size) (w : World) :
    Calls Tryz.prog 144 #[.string d, .string ⟨#[239, 191, 189]⟩] w fun r w' => r = .returned (.bool (rep d 0)) ∧ w' = w := by
  rw [← rep_list d h3]
  go_enter Tryz.func144, Tryz.ntmps144
  go_wp2
  go_ret
  exact ⟨rfl, rfl⟩
theorem pre_short (d : ByteArray) (h3 : ¬ 3 ≤ d.size) (w : World) :
    Calls Tryz.prog 144 #[.string d, .string ⟨#[239, 191, 189]⟩] w fun r w' => r = .returned (.bool (rep d 0)) ∧ w' = w := by
  have e : rep d 0 = false := by unfold rep; rw [at_out d (0 + 2) (by omega)]; simp
  rw [e]
  go_enter Tryz.func144, Tryz.ntmps144
  go_wp2
  go_ret
  exact ⟨rfl, rfl⟩
theorem pre_c (d : ByteArray) (h : d.size ≤ 9223372036854775807) (w : World) :
    Calls Tryz.prog 94 #[.string d] w fun r w' => r = .returned (.bool (rep d 0)) ∧ w' = w := by
  have c26 : ∀ w, Calls Tryz.prog 144 #[.string d, .string ⟨#[239, 191, 189]⟩] w fun r w' => r = .returned (.bool (rep d 0)) ∧ w' = w := fun w => by
    by_cases h3 : 3 ≤ d.size
    · exact pre_long d h h3 w
    · exact pre_short d h3 w
  have c23 : ∀ w, Calls Tryz.prog 119 #[.string d, .string ⟨#[239, 191, 189]⟩] w fun r w' => r = .returned (.bool (rep d 0)) ∧ w' = w := fun w => by
    go_enter Tryz.func119, Tryz.ntmps119
    go_wp2_with (first | (go_at_call 144; refine (c26 _).mono ?_; rintro e w' ⟨rfl, rfl⟩))
    go_ret
    exact ⟨rfl, rfl⟩
  go_enter Tryz.func94, Tryz.ntmps94
  go_wp2_with (first | (go_at_call 119; refine (c23 _).mono ?_; rintro e w' ⟨rfl, rfl⟩))
  go_ret
  exact ⟨rfl, rfl⟩
end Go.Proofs.YthjbknncbhkinaaGreatDoor.USmall

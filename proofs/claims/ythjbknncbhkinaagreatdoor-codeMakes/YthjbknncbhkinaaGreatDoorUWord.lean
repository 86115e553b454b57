/- Contracts of words: names and tags, the program's and the document's. -/
import Derived.Test.YthjbknncbhkinaaGreatDoorUSmall
import Derived.LoopTactic
namespace Go.Proofs.YthjbknncbhkinaaGreatDoor.UWord
open Go.ChangeShapes Go.WideShapes Go.ChangeAt Go.RowKit Go.Proofs.YthjbknncbhkinaaGreatDoor.UBase Go.Proofs.YthjbknncbhkinaaGreatDoor.USmall
set_option linter.unusedVariables false

theorem size_empty {s : ByteArray} (h : s.size = 0) : s = ByteArray.empty := by
  apply ByteArray.ext
  apply Array.eq_empty_of_size_eq_zero
  exact h
theorem word_of {s : ByteArray} {j : Nat} (h1 : 0 < s.size) (h2 : s.size ≤ 32) (h3 : let' (at' s 0) = true) (h4 : ∀ i, i < s.size → sign j (at' s i) = true) : word s j = true := by
  unfold word
  simp only [decide_eq_true h1, decide_eq_true h2, h3, Bool.true_and]
  exact decide_eq_true h4
theorem word_not {s : ByteArray} {j : Nat} (h : ¬ (0 < s.size ∧ s.size ≤ 32 ∧ let' (at' s 0) = true)) : word s j = false := by
  cases e : word s j with
  | false => rfl
  | true =>
    unfold word at e
    simp only [Bool.and_eq_true, decide_eq_true_eq] at e
    exact absurd ⟨e.1, e.2.1, e.2.2.1⟩ h
theorem word_bad {s : ByteArray} {j i : Nat} (hi : i < s.size) (h : sign j (at' s i) = false) : word s j = false := by
  cases e : word s j with
  | false => rfl
  | true =>
    unfold word at e
    simp only [Bool.and_eq_true, decide_eq_true_eq] at e
    rw [e.2.2.2 i hi] at h
    cases h
theorem sign_let {j c : Nat} (h : let' c = true) : sign j c = true := by unfold sign; rw [h]; rfl
theorem sign_dig {j c : Nat} (h : dig c = true) : sign j c = true := by unfold sign; rw [h]; simp
theorem sign_joint {j c : Nat} (h : ((c : Int) != (j : Int)) = false) : sign j c = true := by
  have e : c = j := by simp at h; omega
  unfold sign
  rw [decide_eq_true e]
  simp
theorem sign_none {j c : Nat} (h1 : ¬ let' c = true) (h2 : ¬ dig c = true) (h : ((c : Int) != (j : Int)) = true) : sign j c = false := by
  have e : ¬ c = j := by simp at h; omega
  unfold sign
  simp [h1, h2, e]
theorem sign_rng {j c : Nat} (h : (97 ≤ c ∧ c ≤ 122) ∨ (48 ≤ c ∧ c ≤ 57)) : sign j c = true := by
  unfold sign let' dig
  simp
  omega
theorem sign_not {j c : Nat} (h1 : ¬ (97 ≤ c ∧ c ≤ 122)) (h2 : ¬ (48 ≤ c ∧ c ≤ 57)) (h : ((c : Int) != (j : Int)) = true) : sign j c = false := by
  have e : ¬ c = j := by simp at h; omega
  unfold sign let' dig
  simp [e]
  omega
theorem own_empty (j : Int) (w : World) :
    Calls Tryz.prog 143 #[.string ByteArray.empty, .int .u8 j] w fun r w' => r = .returned (.bool false) ∧ w' = w := by
  go_enter Tryz.func143, Tryz.ntmps143
  go_wp2
  go_ret
  exact ⟨rfl, rfl⟩
theorem own_long (s : ByteArray) (h : 32 < s.size) (hs : s.size ≤ 9223372036854775807) (j : Int) (w : World) :
    Calls Tryz.prog 143 #[.string s, .int .u8 j] w fun r w' => r = .returned (.bool false) ∧ w' = w := by
  have h0 : 0 < s.size := by omega
  have he : ¬ s = ByteArray.empty := fun h => by subst h; revert h0; decide
  have he2 : ((s.size : Int) == 0) = false := by simp; omega
  go_enter Tryz.func143, Tryz.ntmps143
  go_wp2
  go_ret
  exact ⟨rfl, rfl⟩
theorem own_first (s : ByteArray) (h0 : 0 < s.size) (h : s.size ≤ 32) (hl : let' s[0].toNat = false) (j : Int) (w : World) :
    Calls Tryz.prog 143 #[.string s, .int .u8 j] w fun r w' => r = .returned (.bool false) ∧ w' = w := by
  have he : ¬ s = ByteArray.empty := fun h => by subst h; revert h0; decide
  have he2 : ((s.size : Int) == 0) = false := by simp; omega
  have he3 : decide ((32 : Int) < (s.size : Int)) = false := by simp; omega
  go_enter Tryz.func143, Tryz.ntmps143
  go_wp2_with (first | (go_at_call 151; refine (letter_c _ (s[0].toNat) rfl _).mono ?_; rintro e w' ⟨rfl, rfl⟩))
  go_ret
  exact ⟨rfl, rfl⟩
theorem own_go (s : ByteArray) (h0 : 0 < s.size) (h : s.size ≤ 32) (hl : let' s[0].toNat = true) (j : Nat) (w : World) :
    Calls Tryz.prog 143 #[.string s, .int .u8 j] w fun r w' => r = .returned (.bool (word s j)) ∧ w' = w := by
  have he : ¬ s = ByteArray.empty := fun h => by subst h; revert h0; decide
  have he2 : ((s.size : Int) == 0) = false := by simp; omega
  have he3 : decide ((32 : Int) < (s.size : Int)) = false := by simp; omega
  go_enter Tryz.func143, Tryz.ntmps143
  go_wp2_with (first | (go_at_call 151; refine (letter_c _ (s[0].toNat) rfl _).mono ?_; rintro e w' ⟨rfl, rfl⟩))
  go_loop [22] (fun i => ∃ n : Nat, n ≤ s.size ∧ i = .int .i64 n ∧ ∀ i, i < n → sign j (at' s i) = true) (fun i => s.size - (intOf i).toNat)
  case atStart => exact ⟨0, by omega, rfl, fun i hi => by omega⟩
  case round =>
    obtain ⟨n, hn, rfl, ha⟩ := hrel
    have HA : Hid (∀ i, i < n → sign j (at' s i) = true) := ha
    clear ha
    by_cases hlt : n < s.size
    · have E : Hid (at' s n = (s[n]'hlt).toNat) := at_get s n hlt
      go_wp2_with (first
        | (go_at_call 151; refine (letter_c _ (s[n].toNat) rfl _).mono ?_; rintro e w' ⟨rfl, rfl⟩)
        | (go_at_call 152; refine (digit_c _ (s[n].toNat) rfl _).mono ?_; rintro e w' ⟨rfl, rfl⟩))
      · have g : sign j s[n].toNat = true := sign_let (by assumption)
        go_round
        case rel =>
          refine ⟨n + 1, by omega, by go_num, fun i hi => ?_⟩
          by_cases c : i < n
          · exact HA.out i c
          · obtain rfl : i = n := by omega
            rw [E.out]
            exact g
        case measure => simp only [intOf]; omega
      · have g : sign j s[n].toNat = true := sign_dig (by assumption)
        go_round
        case rel =>
          refine ⟨n + 1, by omega, by go_num, fun i hi => ?_⟩
          by_cases c : i < n
          · exact HA.out i c
          · obtain rfl : i = n := by omega
            rw [E.out]
            exact g
        case measure => simp only [intOf]; omega
      · have g : sign j s[n].toNat = false := sign_none (by assumption) (by assumption) (by assumption)
        go_ret
        have e : word s j = false := word_bad hlt (by rw [E.out]; exact g)
        rw [e]
        exact ⟨rfl, rfl⟩
      · have g : sign j s[n].toNat = true := sign_joint (by assumption)
        go_round
        case rel =>
          refine ⟨n + 1, by omega, by go_num, fun i hi => ?_⟩
          by_cases c : i < n
          · exact HA.out i c
          · obtain rfl : i = n := by omega
            rw [E.out]
            exact g
        case measure => simp only [intOf]; omega
    · go_wp2
      go_ret
      have e : word s j = true := word_of h0 h (by rw [at_get s 0 h0]; exact hl) (fun i hi => HA.out i (by omega))
      rw [e]
      exact ⟨rfl, rfl⟩
theorem own_c (s : ByteArray) (hs : s.size ≤ 9223372036854775807) (j : Nat) (w : World) :
    Calls Tryz.prog 143 #[.string s, .int .u8 j] w fun r w' => r = .returned (.bool (word s j)) ∧ w' = w := by
  by_cases h0 : 0 < s.size
  · by_cases h : s.size ≤ 32
    · have e := at_get s 0 h0
      cases hl : let' s[0].toNat with
      | true => exact own_go s h0 h hl j w
      | false =>
        rw [word_not (by rw [e, hl]; simp)]
        exact own_first s h0 h hl j w
    · rw [word_not (by omega)]
      exact own_long s (by omega) hs j w
  · rw [word_not (by omega)]
    obtain rfl := size_empty (by omega : s.size = 0)
    exact own_empty j w

theorem ref_empty (j : Int) (w : World) :
    Calls Tryz.prog 147 #[.string ByteArray.empty, .int .u8 j] w fun r w' => r = .returned (.bool false) ∧ w' = w := by
  go_enter Tryz.func147, Tryz.ntmps147
  go_wp2
  go_ret
  exact ⟨rfl, rfl⟩
theorem ref_long (s : ByteArray) (h : 32 < s.size) (hs : s.size ≤ 9223372036854775807) (j : Int) (w : World) :
    Calls Tryz.prog 147 #[.string s, .int .u8 j] w fun r w' => r = .returned (.bool false) ∧ w' = w := by
  have he2 : decide ((s.size : Int) < 1) = false := by simp; omega
  go_enter Tryz.func147, Tryz.ntmps147
  go_wp2
  go_ret
  exact ⟨rfl, rfl⟩
theorem ref_low (s : ByteArray) (h0 : 0 < s.size) (h : s.size ≤ 32) (hl : (s[0].toNat : Int) < 97) (j : Int) (w : World) :
    Calls Tryz.prog 147 #[.string s, .int .u8 j] w fun r w' => r = .returned (.bool false) ∧ w' = w := by
  have he2 : decide ((s.size : Int) < 1) = false := by simp; omega
  have he3 : decide ((32 : Int) < (s.size : Int)) = false := by simp; omega
  go_enter Tryz.func147, Tryz.ntmps147
  go_wp2
  go_ret
  exact ⟨rfl, rfl⟩
theorem ref_high (s : ByteArray) (h0 : 0 < s.size) (h : s.size ≤ 32) (hl : (122 : Int) < (s[0].toNat : Int)) (j : Int) (w : World) :
    Calls Tryz.prog 147 #[.string s, .int .u8 j] w fun r w' => r = .returned (.bool false) ∧ w' = w := by
  have he2 : decide ((s.size : Int) < 1) = false := by simp; omega
  have he3 : decide ((32 : Int) < (s.size : Int)) = false := by simp; omega
  have he4 : decide ((s[0].toNat : Int) < 97) = false := by simp; omega
  go_enter Tryz.func147, Tryz.ntmps147
  go_wp2
  go_ret
  exact ⟨rfl, rfl⟩
theorem ref_go (s : ByteArray) (h0 : 0 < s.size) (h : s.size ≤ 32) (hl : let' s[0].toNat = true) (hl1 : decide ((s[0].toNat : Int) < 97) = false) (hl2 : decide ((122 : Int) < (s[0].toNat : Int)) = false) (j : Nat) (w : World) :
    Calls Tryz.prog 147 #[.string s, .int .u8 j] w fun r w' => r = .returned (.bool (word s j)) ∧ w' = w := by
  have he2 : decide ((s.size : Int) < 1) = false := by simp; omega
  have he3 : decide ((32 : Int) < (s.size : Int)) = false := by simp; omega
  have HL : Hid (let' s[0].toNat = true) := hl
  clear hl
  go_enter Tryz.func147, Tryz.ntmps147
  go_wp2
  go_loop [5] (fun i => ∃ n : Nat, 1 ≤ n ∧ n ≤ s.size ∧ i = .int .i64 n ∧ ∀ i, i < n → sign j (at' s i) = true) (fun i => s.size - (intOf i).toNat)
  case atStart =>
    refine ⟨1, by omega, by omega, rfl, fun i hi => ?_⟩
    obtain rfl : i = 0 := by omega
    rw [at_get s 0 h0]
    exact sign_let HL.out
  case round =>
    obtain ⟨n, hn1, hn, rfl, ha⟩ := hrel
    have HA : Hid (∀ i, i < n → sign j (at' s i) = true) := ha
    clear ha
    by_cases hlt : n < s.size
    · have E : Hid (at' s n = (s[n]'hlt).toNat) := at_get s n hlt
      by_cases hj : s[n].toNat = j
      · have q : ((s[n].toNat : Int) != (j : Int)) = false := by simp; omega
        have g : sign j s[n].toNat = true := sign_joint q
        have G : Hid (sign j s[n].toNat = true) := g
        clear hj g
        go_wp2
        all_goals have g := G.out
        all_goals (
          go_round
          case rel =>
            refine ⟨n + 1, by omega, by omega, by go_num, fun i hi => ?_⟩
            by_cases c : i < n
            · exact HA.out i c
            · obtain rfl : i = n := by omega
              rw [E.out]
              exact g
          case measure => simp only [intOf]; omega)
      · have q : ((s[n].toNat : Int) != (j : Int)) = true := by simp; omega
        have Q : Hid (((s[n].toNat : Int) != (j : Int)) = true) := q
        clear hj
        go_wp2
        all_goals first
          | (have g : sign j s[n].toNat = true := sign_rng (by omega)
             go_round
             case rel =>
               refine ⟨n + 1, by omega, by omega, by go_num, fun i hi => ?_⟩
               by_cases c : i < n
               · exact HA.out i c
               · obtain rfl : i = n := by omega
                 rw [E.out]
                 exact g
             case measure => simp only [intOf]; omega)
          | (have g : sign j s[n].toNat = false := sign_not (by omega) (by omega) Q.out
             go_ret
             have e : word s j = false := word_bad hlt (by rw [E.out]; exact g)
             rw [e]
             exact ⟨rfl, rfl⟩)
    · go_wp2
      go_ret
      have e : word s j = true := word_of h0 h (by rw [at_get s 0 h0]; exact HL.out) (fun i hi => HA.out i (by omega))
      rw [e]
      exact ⟨rfl, rfl⟩
theorem ref_c (s : ByteArray) (hs : s.size ≤ 9223372036854775807) (j : Nat) (w : World) :
    Calls Tryz.prog 147 #[.string s, .int .u8 j] w fun r w' => r = .returned (.bool (word s j)) ∧ w' = w := by
  by_cases h0 : 0 < s.size
  · by_cases h : s.size ≤ 32
    · have e := at_get s 0 h0
      by_cases l1 : s[0].toNat < 97
      · rw [word_not (by rw [e]; unfold let'; simp; omega)]
        exact ref_low s h0 h (by omega) j w
      · by_cases l2 : 122 < s[0].toNat
        · rw [word_not (by rw [e]; unfold let'; simp; omega)]
          exact ref_high s h0 h (by omega) j w
        · exact ref_go s h0 h (by unfold let'; simp; omega) (by simp; omega) (by simp; omega) j w
    · rw [word_not (by omega)]
      exact ref_long s (by omega) hs j w
  · rw [word_not (by omega)]
    obtain rfl := size_empty (by omega : s.size = 0)
    exact ref_empty j w
end Go.Proofs.YthjbknncbhkinaaGreatDoor.UWord

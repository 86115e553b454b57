/- Contracts of Place, the program's and the document's. -/
import Derived.Test.YtipalibkonggkaaSmall
import Derived.LoopTactic
namespace Go.Proofs.Ytipalibkonggkaa.Place
open Go.ChangeShapes Go.WideShapes Go.ChangeAt Go.RowKit Go.Proofs.Ytipalibkonggkaa.Base Go.Proofs.Ytipalibkonggkaa.Small
set_option linter.unusedVariables false

/-- What Place answers. -/
def pln (s : ByteArray) (a : Int) : Int := if 0 ≤ a ∧ a ≤ s.size then ln s a.toNat else 0
def pcl (s : ByteArray) (a : Int) : Int := if 0 ≤ a ∧ a ≤ s.size then cl s a.toNat else 0
def perr (s : ByteArray) (a : Int) : Int := if 0 ≤ a ∧ a ≤ s.size then 0 else 301
theorem p_in {s : ByteArray} {n : Nat} (h : n ≤ s.size) : pln s n = ln s n ∧ pcl s n = cl s n ∧ perr s n = 0 := by
  unfold pln pcl perr
  rw [if_pos (by omega), if_pos (by omega), if_pos (by omega)]
  simp
theorem p_out {s : ByteArray} {a : Int} (h : ¬ (0 ≤ a ∧ a ≤ s.size)) : pln s a = 0 ∧ pcl s a = 0 ∧ perr s a = 301 := by
  unfold pln pcl perr
  rw [if_neg h, if_neg h, if_neg h]
  simp
theorem ln_lf {s : ByteArray} {n : Nat} (h : at' s n = 10) : ln s (n + 1) = ln s n + 1 ∧ cl s (n + 1) = 1 := by simp [ln, cl, h]
theorem ln_tl {s : ByteArray} {n : Nat} (h : 128 ≤ at' s n ∧ at' s n < 192) : ln s (n + 1) = ln s n ∧ cl s (n + 1) = cl s n := by
  have : ¬ at' s n = 10 := by omega
  simp [ln, cl, h, this]
theorem ln_ch {s : ByteArray} {n : Nat} (h : ¬ at' s n = 10) (h2 : ¬ (128 ≤ at' s n ∧ at' s n < 192)) : ln s (n + 1) = ln s n ∧ cl s (n + 1) = cl s n + 1 := by
  simp [ln, cl, h2, h]
theorem out_low (s : ByteArray) (a : Int) (h : a < 0) (k : Nat) (hk : k = 11 ∨ k = 12) (w : World) :
    Calls Try.prog k #[.string s, .int .i64 a] w fun r w' => r = .returned (.tuple #[.int .i64 0, .int .i64 0, .int .i64 301]) ∧ w' = w := by
  rcases hk with rfl | rfl
  · go_enter Try.func11, Try.ntmps11
    go_wp2
    go_ret3
    exact ⟨rfl, rfl⟩
  · go_enter Try.func12, Try.ntmps12
    go_wp2
    go_ret3
    exact ⟨rfl, rfl⟩
theorem out_high (s : ByteArray) (a : Int) (h0 : ¬ a < 0) (h : (s.size : Int) < a) (k : Nat) (hk : k = 11 ∨ k = 12) (w : World) :
    Calls Try.prog k #[.string s, .int .i64 a] w fun r w' => r = .returned (.tuple #[.int .i64 0, .int .i64 0, .int .i64 301]) ∧ w' = w := by
  rcases hk with rfl | rfl
  · go_enter Try.func11, Try.ntmps11
    go_wp2
    go_ret3
    exact ⟨rfl, rfl⟩
  · go_enter Try.func12, Try.ntmps12
    go_wp2
    go_ret3
    exact ⟨rfl, rfl⟩
theorem in_c (s : ByteArray) (m : Nat) (hs : s.size ≤ 140737488351232) (hm : m ≤ s.size) (w : World) :
    Calls Try.prog 11 #[.string s, .int .i64 m] w fun r w' => r = .returned (.tuple #[.int .i64 (ln s m), .int .i64 (cl s m), .int .i64 0]) ∧ w' = w := by
  have hm0 : ¬ (m : Int) < 0 := by omega
  have hm1 : decide ((s.size : Int) < (m : Int)) = false := by simp; omega
  go_enter Try.func11, Try.ntmps11
  go_wp2
  go_loop [7, 8, 19] (fun l c i => ∃ n : Nat, n ≤ m ∧ i = .int .i64 n ∧ l = .int .i64 (ln s n) ∧ c = .int .i64 (cl s n)) (fun _ _ i => m - (intOf i).toNat)
  case atStart => exact ⟨0, by omega, rfl, rfl, rfl⟩
  case round =>
    obtain ⟨n, hn, rfl, rfl, rfl⟩ := hrel
    by_cases hlt : n < m
    · have hin : n < s.size := by omega
      have e := at_get s n hin
      have b := at_lt s n
      have l1 := ln_le s n
      have l2 := cl_le s n
      by_cases c1 : at' s n = 10
      · have c1' : ((s[n].toNat : Int) == 10) = true := by simp; omega
        have st := ln_lf c1
        rw [e] at c1
        clear e b
        go_wp2
        go_round
        case rel => exact ⟨n + 1, by omega, by go_num, by rw [st.1]; go_num, by rw [st.2]; go_num⟩
        case measure => simp only [intOf]; omega
      · have c1' : ((s[n].toNat : Int) == 10) = false := by simp; omega
        by_cases c2 : 128 ≤ at' s n ∧ at' s n < 192
        · have c2' : (!(decide (128 ≤ s[n].toNat) && decide (s[n].toNat < 192))) = false := by rw [← e]; simp; omega
          have st := ln_tl c2
          clear e b
          go_wp2_with (first | (go_at_call 19; refine (start_c _ (s[n].toNat) rfl (by exact UInt8.toNat_lt _) _).mono ?_; rintro e w' ⟨rfl, rfl⟩))
          go_round
          case rel => exact ⟨n + 1, by omega, by go_num, by rw [st.1], by rw [st.2]⟩
          case measure => simp only [intOf]; omega
        · have c2' : (!(decide (128 ≤ s[n].toNat) && decide (s[n].toNat < 192))) = true := by rw [← e]; simp; omega
          have st := ln_ch c1 c2
          clear e b
          go_wp2_with (first | (go_at_call 19; refine (start_c _ (s[n].toNat) rfl (by exact UInt8.toNat_lt _) _).mono ?_; rintro e w' ⟨rfl, rfl⟩))
          go_round
          case rel => exact ⟨n + 1, by omega, by go_num, by rw [st.1], by rw [st.2]; go_num⟩
          case measure => simp only [intOf]; omega
    · obtain rfl : n = m := by omega
      go_wp2
      go_ret3
      exact ⟨rfl, rfl⟩
theorem rin_c (s : ByteArray) (m : Nat) (hs : s.size ≤ 140737488351232) (hm : m ≤ s.size) (w : World) :
    Calls Try.prog 12 #[.string s, .int .i64 m] w fun r w' => r = .returned (.tuple #[.int .i64 (ln s m), .int .i64 (cl s m), .int .i64 0]) ∧ w' = w := by
  have hm0 : ¬ (m : Int) < 0 := by omega
  have hm1 : decide ((s.size : Int) < (m : Int)) = false := by simp; omega
  go_enter Try.func12, Try.ntmps12
  go_wp2
  go_loop [7, 8, 9] (fun l c i => ∃ n : Nat, n ≤ m ∧ i = .int .i64 n ∧ l = .int .i64 (ln s n) ∧ c = .int .i64 (cl s n)) (fun _ _ i => m - (intOf i).toNat)
  case atStart => exact ⟨0, by omega, rfl, rfl, rfl⟩
  case round =>
    obtain ⟨n, hn, rfl, rfl, rfl⟩ := hrel
    by_cases hlt : n < m
    · have hin : n < s.size := by omega
      have e := at_get s n hin
      have b := at_lt s n
      have l1 := ln_le s n
      have l2 := cl_le s n
      by_cases c1 : at' s n = 10
      · have c1' : ((s[n].toNat : Int) == 10) = true := by simp; omega
        have st := ln_lf c1
        rw [e] at c1
        clear e b
        go_wp2
        go_round
        case rel => exact ⟨n + 1, by omega, by go_num, by rw [st.1]; go_num, by rw [st.2]; go_num⟩
        case measure => simp only [intOf]; omega
      · have c1' : ((s[n].toNat : Int) == 10) = false := by simp; omega
        by_cases c2 : 128 ≤ at' s n ∧ at' s n < 192
        · have c2' : tl s n = true := (tl_iff s n).mpr c2
          have st := ln_tl c2
          clear e b
          go_wp2_with (first | (go_at_call 20; refine (tail_c s _ n rfl _).mono ?_; rintro e w' ⟨rfl, rfl⟩))
          go_round
          case rel => exact ⟨n + 1, by omega, by go_num, by rw [st.1], by rw [st.2]⟩
          case measure => simp only [intOf]; omega
        · have c2' : tl s n = false := by cases h : tl s n with | false => rfl | true => exact absurd ((tl_iff s n).mp h) c2
          have st := ln_ch c1 c2
          clear e b
          go_wp2_with (first | (go_at_call 20; refine (tail_c s _ n rfl _).mono ?_; rintro e w' ⟨rfl, rfl⟩))
          go_round
          case rel => exact ⟨n + 1, by omega, by go_num, by rw [st.1], by rw [st.2]; go_num⟩
          case measure => simp only [intOf]; omega
    · obtain rfl : n = m := by omega
      go_wp2
      go_ret3
      exact ⟨rfl, rfl⟩
theorem place_c (s : ByteArray) (a : Int) (hs : s.size ≤ 140737488351232) (w : World) :
    Calls Try.prog 11 #[.string s, .int .i64 a] w fun r w' => r = .returned (.tuple #[.int .i64 (pln s a), .int .i64 (pcl s a), .int .i64 (perr s a)]) ∧ w' = w := by
  by_cases h : 0 ≤ a ∧ a ≤ s.size
  · obtain ⟨m, rfl⟩ : ∃ m : Nat, a = m := ⟨a.toNat, by omega⟩
    obtain ⟨e1, e2, e3⟩ := p_in (s := s) (n := m) (by omega)
    rw [e1, e2, e3]
    exact in_c s m hs (by omega) w
  · obtain ⟨e1, e2, e3⟩ := p_out h
    rw [e1, e2, e3]
    by_cases h0 : a < 0
    · exact out_low s a h0 11 (Or.inl rfl) w
    · exact out_high s a h0 (by omega) 11 (Or.inl rfl) w
theorem rplace_c (s : ByteArray) (a : Int) (hs : s.size ≤ 140737488351232) (w : World) :
    Calls Try.prog 12 #[.string s, .int .i64 a] w fun r w' => r = .returned (.tuple #[.int .i64 (pln s a), .int .i64 (pcl s a), .int .i64 (perr s a)]) ∧ w' = w := by
  by_cases h : 0 ≤ a ∧ a ≤ s.size
  · obtain ⟨m, rfl⟩ : ∃ m : Nat, a = m := ⟨a.toNat, by omega⟩
    obtain ⟨e1, e2, e3⟩ := p_in (s := s) (n := m) (by omega)
    rw [e1, e2, e3]
    exact rin_c s m hs (by omega) w
  · obtain ⟨e1, e2, e3⟩ := p_out h
    rw [e1, e2, e3]
    by_cases h0 : a < 0
    · exact out_low s a h0 12 (Or.inr rfl) w
    · exact out_high s a h0 (by omega) 12 (Or.inr rfl) w
end Go.Proofs.Ytipalibkonggkaa.Place

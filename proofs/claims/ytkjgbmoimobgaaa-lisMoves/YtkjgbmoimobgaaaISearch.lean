/- Contracts of cmp.Less and slices.BinarySearch at integers. -/
import Derived.Test.YtkjgbmoimobgaaaIBase
namespace Go.Proofs.Ytkjgbmoimobgaaa.ISearch
open Go.RowKit Go.Proofs.Ytkjgbmoimobgaaa.IPure Go.Proofs.Ytkjgbmoimobgaaa.IBase
set_option linter.unusedVariables false

theorem nan_c (x : Int) (w : World) : Calls Try.prog 33 #[.int .i64 x] w fun e w' => e = .returned (.bool false) ∧ w' = w := by
  have h : (x == x) = true := by simp
  go_enter Try.func33, Try.ntmps33
  go_wp2_with fail
  go_ret
  exact ⟨rfl, rfl⟩
theorem snan_c (x : Int) (w : World) : Calls Try.prog 32 #[.int .i64 x] w fun e w' => e = .returned (.bool false) ∧ w' = w := by
  have h : (x == x) = true := by simp
  go_enter Try.func32, Try.ntmps32
  go_wp2_with fail
  go_ret
  exact ⟨rfl, rfl⟩
theorem less_c (x y : Int) (w : World) : Calls Try.prog 31 #[.int .i64 x, .int .i64 y] w fun e w' => e = .returned (.bool (decide (x < y))) ∧ w' = w := by
  go_enter Try.func31, Try.ntmps31
  go_wp2_with (go_at_call 33; refine (nan_c _ _).mono ?_; rintro e w' ⟨rfl, rfl⟩)
  go_ret
  exact ⟨rfl, rfl⟩
theorem pl_of {T : List Int} {x : Int} {i : Nat} (hs : T.Pairwise (· < ·)) (hi : i ≤ T.length) (h1 : ∀ k, k < i → va T k < x) (h2 : ∀ k, i ≤ k → k < T.length → x ≤ va T k) : i = pl T x := by
  rcases Nat.lt_trichotomy i (pl T x) with h | h | h
  · have := pl_lt T x i h
    have := pl_le T x
    have := h2 i (Nat.le_refl _) (by omega)
    omega
  · exact h
  · have := h1 _ h
    have := pl_ge T x _ hs (Nat.le_refl _) (by omega)
    omega
set_option maxRecDepth 20000 in
set_option maxHeartbeats 800000 in
theorem search_c {w : World} {v : Value} {T : List Int} (hv : Ix w v T) (hs : T.Pairwise (· < ·)) (hn : T.length ≤ 17592186044416) (x : Int) :
    Calls Try.prog 29 #[v, .int .i64 x] w fun e w' => (∃ b, e = .returned (.tuple #[.int .i64 (pl T x), .bool b])) ∧ w' = w := by
  obtain ⟨a, cap, rfl, hl, hm, hnil, hT⟩ := hv
  obtain ⟨n, hnn⟩ : ∃ n, T.length = n := ⟨_, rfl⟩
  rw [hnn] at hl hn ⊢
  go_enter Try.func29, Try.ntmps29
  go_wp2_with fail
  go_loopw [7, 8] (fun i j wr => ∃ p q : Nat, i = .int .i64 p ∧ j = .int .i64 q ∧ p ≤ q ∧ q ≤ n ∧ (∀ k, k < p → va T k < x) ∧ (∀ k, q ≤ k → k < n → x ≤ va T k) ∧ wr = w) (fun i j _ => (intOf j).toNat - (intOf i).toNat)
  case atStart => exact ⟨0, n, rfl, rfl, by omega, Nat.le_refl _, fun k h => by omega, fun k h1 h2 => by omega, rfl⟩
  case round =>
    obtain ⟨p, q, rfl, rfl, hpq, hq, h1, h2, rfl⟩ := hrel
    by_cases hlt : p < q
    · obtain ⟨h, hh⟩ : ∃ h, (p + q) / 2 = h := ⟨_, rfl⟩
      rcases hT with rfl | ⟨g, o, rfl, hc⟩
      · simp at hnn; omega
      · have hc1 := hc h (by omega)
        have hva : va T h = T[h] := va_eq (by omega)
        have HM : Hid (∀ a b, a < b → b < n → va T a < va T b) := fun a b h1 h2 => by
          rw [va_eq (by omega), va_eq (by omega)]
          exact List.pairwise_iff_getElem.1 hs a b (by omega) (by omega) h1
        have H1 : Hid (∀ k, k < p → va T k < x) := h1
        have H2 : Hid (∀ k, q ≤ k → k < n → x ≤ va T k) := h2
        rw [← hva] at hc1
        clear hc hva h1 h2
        have hnum : (((p : Int) + (q : Int)) / 2) = (h : Int) := by omega
        by_cases hx : va T h < x
        · have d : decide (va T h < x) = true := decide_eq_true hx
          have HX : Hid (∀ k, k < h + 1 → va T k < x) := fun k hk => by
            by_cases e : k = h
            · subst e; exact hx
            · have := HM.out k h (by omega) (by omega)
              omega
          clear hx HM
          generalize va T h = y at *
          go_wp2_with (go_at_call 31; refine (less_c _ _ _).mono ?_; rintro e w' ⟨rfl, rfl⟩)
          go_roundw
          case rel => exact ⟨h + 1, q, by go_num, rfl, by omega, by omega, HX.out, H2.out, trivial⟩
          case measure => simp only [intOf]; omega
        · have d : decide (va T h < x) = false := decide_eq_false hx
          have HX : Hid (∀ k, h ≤ k → k < n → x ≤ va T k) := fun k h1 h2 => by
            by_cases e : k = h
            · subst e; omega
            · have := HM.out h k (by omega) (by omega)
              omega
          clear hx HM
          generalize va T h = y at *
          go_wp2_with (go_at_call 31; refine (less_c _ _ _).mono ?_; rintro e w' ⟨rfl, rfl⟩)
          go_roundw
          case rel => exact ⟨p, h, rfl, by go_num, by omega, by omega, H1.out, HX.out, trivial⟩
          case measure => simp only [intOf]; omega
    · obtain rfl : p = q := by omega
      have H1 : Hid (∀ k, k < p → va T k < x) := h1
      have H2 : Hid (∀ k, p ≤ k → k < n → x ≤ va T k) := h2
      clear h1 h2
      have hpl : Hid ((pl T x : Int) = (p : Int)) := by
        have : p = pl T x := pl_of hs (by omega) H1.out (fun k a b => H2.out k a (by omega))
        show _ = _
        omega
      have hnlt : decide ((p : Int) < (p : Int)) = false := by simp
      by_cases hpn : p < n
      · rcases hT with rfl | ⟨g, o, rfl, hc⟩
        · simp at hnn; omega
        · have hc1 := hc p (by omega)
          generalize T[p] = y at hc1
          have d : decide ((p : Int) < (n : Int)) = true := decide_eq_true (by omega)
          clear hc
          by_cases hy : y = x
          · subst hy
            have e : (y == y) = true := by simp
            go_wp2_with fail
            refine bodyPost_ret (v := .tuple #[.int .i64 p, .bool true]) (by simp [results, Try.results29, go_sem]) rfl ⟨⟨true, by rw [hpl.out]⟩, rfl⟩
          · have e : (y == x) = false := by simp [hy]
            go_wp2_with (go_at_call 32; refine (snan_c _ _).mono ?_; rintro e w' ⟨rfl, rfl⟩)
            refine bodyPost_ret (v := .tuple #[.int .i64 p, .bool false]) (by simp [results, Try.results29, go_sem]) rfl ⟨⟨false, by rw [hpl.out]⟩, rfl⟩
      · have d : decide ((p : Int) < (n : Int)) = false := decide_eq_false (by omega)
        go_wp2_with fail
        refine bodyPost_ret (v := .tuple #[.int .i64 p, .bool false]) (by simp [results, Try.results29, go_sem]) rfl ⟨⟨false, by rw [hpl.out]⟩, rfl⟩
end Go.Proofs.Ytkjgbmoimobgaaa.ISearch

/- The contracts of Take and TakeInt, of package leb and of the reference. -/
import Derived.Test.YthclndiekjaalaaZPt
namespace Go.Proofs.Ythclndiekjaalaa.Leb
set_option linter.unusedVariables false
open Go.ChangeShapes Go.WideShapes Go.ChangeAt Go.RowKit

/-- The three answers of Take, as values. -/
def tkV (r : Nat × Nat × Nat) : Value := .tuple #[.int .u64 (r.1 : Int), .int .i64 (r.2.1 : Int), .int .i64 (r.2.2 : Int)]
theorem tk_out {L : List UInt8} {s : Int} (h : s < 0 ∨ L.length < s) : tk L s = (0, 0, 200) := by
  unfold tk
  rw [if_neg (by omega)]
theorem take_out (v : Value) (L : List UInt8) (s : Int) (w : World) (hS : Seen w v L) (h : s < 0 ∨ L.length < s) :
    Calls Try.prog 120 #[v, .int .i64 s] w fun e w' => e = .returned (tkV (tk L s)) ∧ w' = w := by
  obtain ⟨a, cap, rfl, hlc, hm, hnil, hcell⟩ := hS
  rw [tk_out h]
  by_cases hn : s < 0
  · go_enter Try.func120, Try.ntmps120
    go_wp2
    go_ret3
    exact ⟨rfl, rfl⟩
  · have h2 : (L.length : Int) < s := by omega
    go_enter Try.func120, Try.ntmps120
    go_wp2
    go_ret3
    exact ⟨rfl, rfl⟩
theorem take_end (a : Option Addr) (n cap : Nat) (w : World) (hlc : n ≤ cap) (hm : cap ≤ maxLen) (hnil : a = none → cap = 0) :
    Calls Try.prog 120 #[.slice a n cap, .int .i64 n] w fun e w' => e = .returned (tkV (0, 0, 200)) ∧ w' = w := by
  unfold maxLen at hm
  cases a with
  | none =>
    obtain rfl := hnil rfl
    obtain rfl : n = 0 := by omega
    go_enter Try.func120, Try.ntmps120
    go_wp2
    refine wp_loop_rounds 1 ?_
    rw [rounds_succ]
    go_wp2
    go_ret3
    exact ⟨rfl, rfl⟩
  | some x =>
    by_cases hc : cap = n
    · go_enter Try.func120, Try.ntmps120
      go_wp2
      refine wp_loop_rounds 1 ?_
      rw [rounds_succ]
      go_wp2
      go_ret3
      exact ⟨rfl, rfl⟩
    · go_enter Try.func120, Try.ntmps120
      go_wp2
      refine wp_loop_rounds 1 ?_
      rw [rounds_succ]
      go_wp2
      go_ret3
      exact ⟨rfl, rfl⟩
theorem bits_step (X c i : Nat) (k : Int) (hk : 7 * (i : Int) = k) (hi : i ≤ 8) (hX : X < 2 ^ (7 * i)) :
    bits .or .u64 (X : Int) (IntKind.u64.wrap ((c : Int) % 128 * 2 ^ k.toNat)) = ((X + c % 128 * 2 ^ (7 * i) : Nat) : Int) := by
  have e : k.toNat = 7 * i := by omega
  have e2 : (c : Int) % 128 * 2 ^ (7 * i) = ((c % 128 * 2 ^ (7 * i) : Nat) : Int) := by simp
  have h4 : 2 ^ (7 * i) ≤ 2 ^ 56 := Nat.pow_le_pow_right (by omega) (by omega)
  have h5 : c % 128 * 2 ^ (7 * i) ≤ 127 * 2 ^ 56 := Nat.mul_le_mul (by omega) h4
  rw [e, e2, IntKind.wrap_u64, Int.emod_eq_of_lt (by omega) (by omega), bits_join X (c % 128) (7 * i) (by omega) hX (by omega)]
set_option maxRecDepth 20000 in
set_option maxHeartbeats 800000 in
theorem take_in (g o cap m n : Nat) (R : List UInt8) (w : World) (hR : R.length = m) (h0 : 0 < m) (hlc : n + m ≤ cap) (hm : cap ≤ maxLen)
    (hcell : Hid (∀ j (hj : j < R.length), w.cell? ⟨g, o + n + j, none⟩ = some (.int .u8 (R[j].toNat : Int)))) :
    Calls Try.prog 120 #[.slice (some ⟨g, o, none⟩) (n + m) cap, .int .i64 n] w fun e w' => e = .returned (tkV (takeGo n R 0 0)) ∧ w' = w := by
  unfold maxLen at hm
  have hc : ¬ cap = n := by omega
  go_enter Try.func120, Try.ntmps120
  go_wp2
  go_loop [7, 22] (fun x t => ∃ (i X : Nat), x = .int .u64 X ∧ t = .int .i64 i ∧ i ≤ m ∧ i ≤ 9 ∧ Hid (X < 2 ^ (7 * i)) ∧ Hid (takeGo n (R.drop i) i X = takeGo n R 0 0)) (fun _ t => m - (intOf t).toNat)
  case atStart => exact ⟨0, 0, rfl, rfl, by omega, by omega, by show _ < _; simp, by show _ = _; simp⟩
  case round =>
    obtain ⟨i, X, rfl, rfl, him, hi9, hX, HT⟩ := hrel
    by_cases hi : i < m
    · obtain ⟨c, hc⟩ : ∃ c : UInt8, c = R[i] := ⟨_, rfl⟩
      have hcl := hcell.out i (by omega)
      rw [← hc] at hcl
      have hd : R.drop i = c :: R.drop (i + 1) := by rw [List.drop_eq_getElem_cons (by omega), hc]
      rw [hd, takeGo_cons] at HT
      have hclt : c.toNat < 256 := c.toNat_lt
      have hband := bits_less c.toNat hclt
      clear hc hd
      by_cases h1 : i = 9 ∧ 1 < c.toNat
      · rw [if_pos h1] at HT
        obtain ⟨rfl, h1⟩ := h1
        have h1' : (1 : Int) < (c.toNat : Int) := by omega
        go_wp2
        go_ret3
        rw [← HT.out]
        exact ⟨rfl, rfl⟩
      · rw [if_neg h1] at HT
        by_cases h2 : 0 < i ∧ c.toNat = 0
        · rw [if_pos h2] at HT
          obtain ⟨h2, h3⟩ := h2
          have h9 : ¬ ((1 : Int) < (c.toNat : Int)) := by omega
          have h2' : (0 : Int) < (i : Int) := by omega
          have h3' : ((c.toNat : Int) == 0) = true := by simp; omega
          go_wp2
          all_goals go_ret3
          all_goals rw [← HT.out]
          all_goals exact ⟨rfl, rfl⟩
        · rw [if_neg h2] at HT
          by_cases h9 : i = 9
          · subst h9
            have hc1 : c.toNat = 1 := by omega
            rw [if_pos (by omega)] at HT
            obtain ⟨Y, hY⟩ : ∃ Y, Y = X + c.toNat * 2 ^ (7 * 9) := ⟨_, rfl⟩
            rw [← hY] at HT
            have hbo : bits .or .u64 (X : Int) ((c.toNat : Int) % 128 * 9223372036854775808) = (Y : Int) := by
              have h := bits_join X c.toNat (7 * 9) (by omega) hX.out (by rw [hc1]; omega)
              rw [← hY, hc1] at h
              rw [hc1]
              exact h
            have g1 : ¬ ((1 : Int) < (c.toNat : Int)) := by omega
            have g2 : ((c.toNat : Int) == 0) = false := by simp; omega
            have g3 : (c.toNat : Int) < 128 := by omega
            clear hc1 hY h1 h2
            go_wp2
            go_ret3
            rw [← HT.out]
            exact ⟨rfl, rfl⟩
          · obtain ⟨k, hk⟩ : ∃ k : Int, 7 * (i : Int) = k := ⟨_, rfl⟩
            have hk0 : 0 ≤ k := by omega
            have hk1 : k ≤ 63 := by omega
            obtain ⟨Y, hY⟩ : ∃ Y, Y = X + c.toNat % 128 * 2 ^ (7 * i) := ⟨_, rfl⟩
            have hbo := bits_step X c.toNat i k hk (by omega) hX.out
            have hYl : Hid (Y < 2 ^ (7 * (i + 1))) := by
              show _ < _
              have hXo := hX.out
              have h5 : c.toNat % 128 * 2 ^ (7 * i) ≤ 127 * 2 ^ (7 * i) := Nat.mul_le_mul_right _ (by omega)
              rw [hY, pow_step]
              omega
            rw [← hY] at hbo HT
            by_cases h3 : c.toNat < 128
            · rw [if_pos h3] at HT
              have hm128 : c.toNat % 128 = c.toNat := Nat.mod_eq_of_lt h3
              rw [hm128] at hY
              rw [← hY] at HT
              clear hm128 hY
              go_wp2
              all_goals go_ret3
              all_goals rw [← HT.out]
              all_goals exact ⟨rfl, rfl⟩
            · rw [if_neg h3] at HT
              clear hY
              go_wp2
              all_goals go_round
              all_goals first | exact ⟨i + 1, Y, rfl, by go_num, by omega, by omega, hYl, HT⟩ | (simp only [intOf]; omega)
    · obtain rfl : i = m := by omega
      have hd : R.drop i = [] := by rw [List.drop_eq_nil_iff]; omega
      rw [hd] at HT
      go_wp2
      go_ret3
      rw [← HT.out]
      exact ⟨rfl, rfl⟩
/-- Take, of bytes that are seen. -/
theorem take_c (v : Value) (L : List UInt8) (s : Int) (w : World) (hS : Seen w v L) :
    Calls Try.prog 120 #[v, .int .i64 s] w fun e w' => e = .returned (tkV (tk L s)) ∧ w' = w := by
  by_cases h : s < 0 ∨ L.length < s
  · exact take_out v L s w hS h
  · obtain ⟨a, cap, rfl, hlc, hm, hnil, hcell⟩ := hS
    obtain ⟨n, rfl⟩ : ∃ n : Nat, s = (n : Int) := ⟨s.toNat, by omega⟩
    have et : tk L (n : Int) = takeGo n (L.drop n) 0 0 := by unfold tk; rw [if_pos (by omega)]; simp
    rw [et]
    by_cases hn : n = L.length
    · subst hn
      rw [List.drop_eq_nil_of_le (Nat.le_refl _)]
      exact take_end a _ cap w hlc hm hnil
    · cases a with
      | none => have := hnil rfl; omega
      | some x =>
        obtain ⟨g, o, sp⟩ := x
        obtain rfl : sp = none := (hcell g o sp rfl 0 (by omega)).1
        have hl : L.length = n + (L.length - n) := by omega
        have := take_in g o cap (L.length - n) n (L.drop n) w (List.length_drop) (by omega) (by omega) hm (by
          intro j hj
          rw [List.length_drop] at hj
          have := (hcell g o none rfl (n + j) (by omega)).2
          rw [Nat.add_assoc, this, List.getElem_drop])
        rw [← hl] at this
        exact this
end Go.Proofs.Ythclndiekjaalaa.Leb

/- The contracts of Put and PutInt, of package leb and of the reference. -/
import Derived.Test.YtmodaihngcnlfaaZBi
namespace Go.Proofs.Ytmodaihngcnlfaa.Leb
set_option linter.unusedVariables false
open Go.ChangeShapes Go.WideShapes Go.ChangeAt Go.RowKit

theorem cell_one_byte (wr : World) (c : Nat) (j : Nat) (u : Value) (hj : [Value.int .u8 (c : Int)][j]? = some u) :
    (wr.alloc (.cells #[.int .u8 (c : Int)] 5)).cell? ((⟨wr.heap.size, 0, none⟩ : Addr).add j) = some u := by
  cases j with
  | zero => simp at hj; subst hj; exact cell_new _ _ _
  | succ j => simp at hj
theorem own_more {w' : World} {B : Nat} {v : Value} {L : List UInt8} {c : UInt8} (h : w'.ownsRow B 5 1 v (L.length + 1) (cellsL L ++ [.int .u8 (c.toNat : Int)])) : Own w' B v (L ++ [c]) := by
  unfold Own
  rw [cellsL_append, List.length_append]
  exact h
set_option maxHeartbeats 800000 in
theorem put_c (N : Nat) (hN : N < 18446744073709551616) (w : World) :
    Calls Try.prog 80 #[.int .u64 N] w fun e w' => ∃ v, e = .returned v ∧ Own w' w.heap.size v (putL N) ∧ Below w.heap.size w w' := by
  obtain ⟨i0, hi, hz0, hz1, hz2⟩ := info_parts info5
  have hlen := putL_len hN
  go_enter Try.func80, Try.ntmps80
  go_wp2
  go_loopw [0, 3] (fun x v wr => ∃ (X : Nat) (L : List UInt8), x = .int .u64 X ∧ X ≤ N ∧ L.length ≤ 10 ∧ Below w.heap.size w wr ∧ Own wr w.heap.size v L ∧ Hid (L ++ putL X = putL N)) (fun x _ _ => (intOf x).toNat)
  case atStart => exact ⟨N, [], rfl, by omega, by simp, Below.refl _ _, World.ownsRow_nil _ _ _ _, rfl⟩
  case round =>
    obtain ⟨X, L, rfl, hX, hL, hb, hown, HW⟩ := hrel
    have hsz := hb.size
    by_cases hx : X < 128
    · have hx' : ¬ (128 : Int) ≤ X := by omega
      obtain ⟨c, hc⟩ : ∃ c : UInt8, (c.toNat : Int) = (X : Int) := ⟨UInt8.ofNat X, by rw [byte_of (by omega)]⟩
      have HC : Hid (putL X = [c]) := by
        have e : c = UInt8.ofNat X := UInt8.toNat_inj.1 (by rw [byte_of (by omega)]; omega)
        rw [e]; exact putL_small hx
      go_wp2_with (first
            | (at_builtin; refine wpList_append_own _ rfl _ _ 30 rfl w.heap.size 5 i0 (.int .u8 0) 1 1 Try.underlying30 hi hz0 hz1 hz2 rfl (by decide) _ _ _ rfl (World.ownsRow.alloc hown _) ⟨wr.heap.size, 0, none⟩ 1 1 [.int .u8 (X : Int)] rfl rfl (cell_one_byte _ X) (by intro u hu; simp at hu; subst hu; rfl) (by unfold maxLen; omega) (by omega) (by simp; omega) ?_))
      intro v' w2 hown' hgrow _
      have hb3 := (hb.alloc hsz (.cells #[.int .u8 (X : Int)] 5)).grown hgrow (by simp; omega) (fun k hk => (World.ownsRow.lt hown k hk).1)
      rw [← hc] at hown'
      have ho := own_more hown'
      rw [← HC.out, HW.out] at ho
      clear hown' hgrow hown hb HW
      go_wp2
      go_ret
      exact ⟨_, rfl, ho, hb3⟩
    · have hx' : (128 : Int) ≤ X := by omega
      obtain ⟨c, hc⟩ : ∃ c : UInt8, c = UInt8.ofNat (128 + X % 128) := ⟨_, rfl⟩
      have hbit : bits .or .u8 ((X : Int) % 256) 128 = (c.toNat : Int) := by rw [bits_more, hc]
      have HC : Hid (putL X = c :: putL (X / 128)) := by rw [hc]; exact putL_big hx
      clear hc
      go_wp2_with (first
            | (at_builtin; refine wpList_append_own _ rfl _ _ 30 rfl w.heap.size 5 i0 (.int .u8 0) 1 1 Try.underlying30 hi hz0 hz1 hz2 rfl (by decide) _ _ _ rfl (World.ownsRow.alloc hown _) ⟨wr.heap.size, 0, none⟩ 1 1 [.int .u8 (c.toNat : Int)] rfl rfl (cell_one_byte _ c.toNat) (by intro u hu; simp at hu; subst hu; rfl) (by unfold maxLen; omega) (by omega) (by simp; omega) ?_))
      intro v' w2 hown' hgrow _
      have hb3 := (hb.alloc hsz (.cells #[.int .u8 (c.toNat : Int)] 5)).grown hgrow (by simp; omega) (fun k hk => (World.ownsRow.lt hown k hk).1)
      have ho := own_more hown'
      have HW2 : Hid (L ++ [c] ++ putL (X / 128) = putL N) := by show _ = _; rw [← HW.out, HC.out]; simp
      have hl : (L ++ [c]).length ≤ 10 := by have := congrArg List.length HW2.out; rw [List.length_append] at this; omega
      clear hown' hgrow hown hb HW HC
      go_wp2
      go_roundw
      case rel => exact ⟨X / 128, L ++ [c], by go_num, by omega, hl, hb3, ho, HW2⟩
      case measure => simp only [intOf]; omega
theorem fold_c (y : Int) (h0 : -9223372036854775808 ≤ y) (h1 : y ≤ 9223372036854775807) (w : World) :
    Calls Try.prog 88 #[.int .i64 y] w fun e w' => e = .returned (.int .u64 (zig y)) ∧ w' = w := by
  by_cases hy : y < 0
  · have e1 : y / 9223372036854775808 = -1 := by omega
    have key : bits .xor .u64 (IntKind.u64.wrap (IntKind.u64.wrap y * 2)) (IntKind.u64.wrap (-1)) = (zig y : Int) := by
      have e2 : IntKind.u64.wrap (IntKind.u64.wrap y * 2) = ((2 * y + 18446744073709551616).toNat : Int) := by rw [IntKind.wrap_u64, IntKind.wrap_u64]; omega
      have e3 : IntKind.u64.wrap (-1) = 18446744073709551615 := by rw [IntKind.wrap_u64]; omega
      rw [e2, e3, bits_xor1 _ (by omega)]
      unfold zig
      rw [if_pos hy]
      omega
    go_enter Try.func88, Try.ntmps88
    go_wp2
    go_ret
    exact ⟨rfl, rfl⟩
  · have key : bits .xor .u64 (y * 2) (y / 9223372036854775808) = (zig y : Int) := by
      have e2 : y * 2 = ((2 * y).toNat : Int) := by omega
      have e3 : y / 9223372036854775808 = 0 := by omega
      rw [e2, e3, bits_xor0 _ (by omega)]
      unfold zig
      rw [if_neg hy]
    go_enter Try.func88, Try.ntmps88
    go_wp2
    go_ret
    exact ⟨rfl, rfl⟩
theorem unfold_c (x : Nat) (h : x < 18446744073709551616) (w : World) :
    Calls Try.prog 86 #[.int .u64 x] w fun e w' => e = .returned (.int .i64 (unz x)) ∧ w' = w := by
  have e := bits_and1 x h
  have e2 : (x : Int) / 2 = ((x / 2 : Nat) : Int) := by omega
  by_cases hy : x % 2 = 0
  · have key : bits .xor .i64 ((x : Int) / 2) 0 = unz x := by
      rw [e2, bits_ixor0 _ (by omega)]
      unfold unz
      rw [if_pos hy]
    rw [hy] at e
    clear e2
    go_enter Try.func86, Try.ntmps86
    go_wp2
    go_ret
    exact ⟨rfl, rfl⟩
  · have key : bits .xor .i64 ((x : Int) / 2) (-1) = unz x := by
      rw [e2, bits_ixor1 _ (by omega)]
      unfold unz
      rw [if_neg hy]
    have hy' : x % 2 = 1 := by omega
    rw [hy'] at e
    clear e2
    go_enter Try.func86, Try.ntmps86
    go_wp2
    go_ret
    exact ⟨rfl, rfl⟩
theorem put_i (n : Int) (h0 : 0 ≤ n) (h1 : n < 18446744073709551616) (w : World) :
    Calls Try.prog 80 #[.int .u64 n] w fun e w' => ∃ v, e = .returned v ∧ Own w' w.heap.size v (putL n.toNat) ∧ Below w.heap.size w w' := by
  have := put_c n.toNat (by omega) w
  rw [Int.toNat_of_nonneg h0] at this
  exact this
theorem puti_c (y : Int) (h0 : -9223372036854775808 ≤ y) (h1 : y ≤ 9223372036854775807) (w : World) :
    Calls Try.prog 84 #[.int .i64 y] w fun e w' => ∃ v, e = .returned v ∧ Own w' w.heap.size v (putL (zig y)) ∧ Below w.heap.size w w' := by
  go_enter Try.func84, Try.ntmps84
  go_wp2_with (first | (go_at_call 88; refine (fold_c _ (by assumption) (by assumption) _).mono ?_; rintro e w' ⟨rfl, rfl⟩) | (go_at_call 80; refine (put_c _ (zig_lt h0 h1) _).mono ?_; rintro e w' ⟨v, rfl, ho, hb⟩))
  go_ret
  exact ⟨_, rfl, ho, hb⟩
end Go.Proofs.Ytmodaihngcnlfaa.Leb

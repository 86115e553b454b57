import Derived.Below
import Derived.Laws.BitsAllLaws
import Derived.Laws.RangeAny
import Derived.OpenShut
import Derived.ProofKit
import Derived.Test.YtaiackmmmlhgbaaGreatProg
import Derived.WalkKit
open Go.Proofs.Tryz
set_option linter.unusedVariables false
set_option maxRecDepth 20000
set_option maxHeartbeats 3200000
namespace Go.Proofs.YtaiackmmmlhgbaaGreat.Leb
def putL (x : Nat) : List UInt8 := if x < 128 then [UInt8.ofNat x] else UInt8.ofNat (128 + x % 128) :: putL (x / 128)
  termination_by x
  decreasing_by omega
def takeGo (s : Nat) : List UInt8 -> Nat -> Nat -> Nat × Nat × Nat
  | [], _, _ => (0, 0, 200)
  | c :: r, i, acc =>
    if i = 9 /\ 1 < c.toNat then (0, 0, 201)
    else if 0 < i /\ c.toNat = 0 then (0, 0, 201)
    else if c.toNat < 128 then (acc + c.toNat * 2 ^ (7 * i), s + i + 1, 0)
    else takeGo s r (i + 1) (acc + c.toNat % 128 * 2 ^ (7 * i))
def tk (L : List UInt8) (s : Int) : Nat × Nat × Nat := if 0 <= s /\ s <= L.length then takeGo s.toNat (L.drop s.toNat) 0 0 else (0, 0, 200)
def zig (y : Int) : Nat := if y < 0 then (-2 * y - 1).toNat else (2 * y).toNat
def unz (x : Nat) : Int := if x % 2 = 0 then ((x / 2 : Nat) : Int) else -((x / 2 : Nat) : Int) - 1
theorem putL_small {x : Nat} (h : x < 128) : putL x = [UInt8.ofNat x] := by rw [putL, if_pos h]
theorem putL_big {x : Nat} (h : ¬ x < 128) : putL x = UInt8.ofNat (128 + x % 128) :: putL (x / 128) := by rw [putL, if_neg h]
theorem byte_of {n : Nat} (h : n < 256) : (UInt8.ofNat n).toNat = n := by rw [UInt8.toNat_ofNat']; exact Nat.mod_eq_of_lt h
theorem putL_le (k : Nat) : ∀ {x : Nat}, x < 128 ^ (k + 1) -> (putL x).length <= k + 1 := by
  induction k with
  | zero => intro x h; rw [putL_small (by simpa using h)]; simp
  | succ k ih =>
    intro x h
    by_cases hx : x < 128
    · rw [putL_small hx]; simp
    · rw [putL_big hx, List.length_cons]
      have : x / 128 < 128 ^ (k + 1) := by rw [Nat.div_lt_iff_lt_mul (by omega)]; rw [Nat.pow_succ] at h; exact h
      have := ih this
      omega
theorem putL_len {x : Nat} (h : x < 18446744073709551616) : (putL x).length <= 10 := putL_le 9 (by omega)
theorem pow_step (i : Nat) : 2 ^ (7 * (i + 1)) = 2 ^ (7 * i) * 128 := by rw [Nat.mul_add, Nat.pow_add]
theorem takeGo_err (s : Nat) (L : List UInt8) : ∀ (i acc : Nat), (takeGo s L i acc).2.2 ≠ 0 -> takeGo s L i acc = (0, 0, 200) \/ takeGo s L i acc = (0, 0, 201) := by
  induction L with
  | nil => intro i acc _; exact .inl rfl
  | cons c r ih =>
    intro i acc h
    unfold takeGo at h ⊢
    split
    · exact .inr rfl
    · rename_i h1
      rw [if_neg h1] at h
      split
      · exact .inr rfl
      · rename_i h2
        rw [if_neg h2] at h
        split
        · rename_i h3; rw [if_pos h3] at h; exact absurd rfl h
        · rename_i h3; rw [if_neg h3] at h; exact ih _ _ h
theorem takeGo_cons (s : Nat) (c : UInt8) (r : List UInt8) (i acc : Nat) : takeGo s (c :: r) i acc = if i = 9 /\ 1 < c.toNat then (0, 0, 201)
    else if 0 < i /\ c.toNat = 0 then (0, 0, 201)
    else if c.toNat < 128 then (acc + c.toNat * 2 ^ (7 * i), s + i + 1, 0)
    else takeGo s r (i + 1) (acc + c.toNat % 128 * 2 ^ (7 * i)) := rfl
theorem takeGo_back (s : Nat) (L : List UInt8) : ∀ (i acc : Nat), (takeGo s L i acc).2.2 = 0 ->
    ∃ n x, 1 <= n /\ n <= L.length /\ (takeGo s L i acc).2.1 = s + i + n /\ (takeGo s L i acc).1 = acc + x * 2 ^ (7 * i) /\ putL x = L.take n /\ (0 < i -> 0 < x) /\ takeGo s (L.take (n - 1)) i acc = (0, 0, 200) := by
  induction L with
  | nil => intro i acc h; simp [takeGo] at h
  | cons c r ih =>
    intro i acc h
    rw [takeGo_cons] at h ⊢
    split at h
    · simp at h
    · rename_i h1
      split at h
      · simp at h
      · rename_i h2
        split at h
        · rename_i h3
          refine ⟨1, c.toNat, by omega, by simp, ?_, ?_, ?_, by omega, rfl⟩
          · rw [if_neg h1, if_neg h2, if_pos h3]
          · rw [if_neg h1, if_neg h2, if_pos h3]
          · rw [putL_small h3]; simp
        · rename_i h3
          obtain ⟨n, x, hn, hl, e1, e2, e3, e4, e5⟩ := ih _ _ h
          have hc : c.toNat < 256 := c.toNat_lt
          have hx := e4 (by omega)
          refine ⟨n + 1, c.toNat % 128 + x * 128, by omega, by simp; omega, ?_, ?_, ?_, by omega, ?_⟩
          · rw [if_neg h1, if_neg h2, if_neg h3, e1]; omega
          · rw [if_neg h1, if_neg h2, if_neg h3, e2, pow_step, Nat.add_mul, Nat.mul_assoc x, Nat.mul_comm 128]; omega
          · rw [putL_big (by omega)]
            have ha : (c.toNat % 128 + x * 128) / 128 = x := by omega
            have hb : 128 + (c.toNat % 128 + x * 128) % 128 = c.toNat := by omega
            rw [ha, hb, e3]
            simp
          · have e : (c :: r).take (n + 1 - 1) = c :: r.take (n - 1) := by
              obtain ⟨m, rfl⟩ : ∃ m, n = m + 1 := ⟨n - 1, by omega⟩
              simp
            rw [e, takeGo_cons, if_neg h1, if_neg h2, if_neg h3, e5]
theorem takeGo_lt (s : Nat) (L : List UInt8) : ∀ (i acc : Nat), i <= 9 -> acc < 2 ^ (7 * i) -> (takeGo s L i acc).1 < 18446744073709551616 := by
  induction L with
  | nil => intro i acc _ _; simp [takeGo]
  | cons c r ih =>
    intro i acc hi ha
    unfold takeGo
    split
    · simp
    · rename_i h1
      split
      · simp
      · rename_i h2
        split
        · rename_i h3
          by_cases h9 : i = 9
          · subst h9; simp only; omega
          · have h4 : 2 ^ (7 * i) <= 2 ^ 56 := Nat.pow_le_pow_right (by omega) (by omega)
            have : c.toNat * 2 ^ (7 * i) <= 127 * 2 ^ 56 := Nat.mul_le_mul (by omega) h4
            simp only
            omega
        · rename_i h3
          have hc : c.toNat % 128 <= 127 := by omega
          have h5 : c.toNat % 128 * 2 ^ (7 * i) <= 127 * 2 ^ (7 * i) := Nat.mul_le_mul_right _ hc
          exact ih _ _ (by omega) (by rw [pow_step]; omega)
theorem tk_lt (L : List UInt8) (s : Int) : (tk L s).1 < 18446744073709551616 := by
  unfold tk
  split
  · exact takeGo_lt _ _ _ _ (by omega) (by simp)
  · simp
theorem tk_err {L : List UInt8} {s : Int} (h : (tk L s).2.2 ≠ 0) : tk L s = (0, 0, 200) \/ tk L s = (0, 0, 201) := by
  unfold tk at h ⊢
  split
  · rename_i hs; rw [if_pos hs] at h; exact takeGo_err _ _ _ _ h
  · exact .inl rfl
theorem tk_back {L : List UInt8} {s : Int} (h : (tk L s).2.2 = 0) :
    ∃ n : Nat, 0 <= s /\ 1 <= n /\ s.toNat + n <= L.length /\ (tk L s).2.1 = s.toNat + n /\ putL (tk L s).1 = (L.drop s.toNat).take n /\ tk (L.take (s.toNat + n - 1)) s = (0, 0, 200) := by
  by_cases hs : 0 <= s /\ s <= L.length
  · have e : tk L s = takeGo s.toNat (L.drop s.toNat) 0 0 := by unfold tk; rw [if_pos hs]
    rw [e] at h ⊢
    obtain ⟨n, x, hn, hl, e1, e2, e3, e4, e5⟩ := takeGo_back _ _ _ _ h
    rw [List.length_drop] at hl
    refine ⟨n, hs.1, hn, by omega, by simpa using e1, by rw [e2]; simpa using e3, ?_⟩
    unfold tk
    rw [if_pos ⟨hs.1, by rw [List.length_take]; omega⟩]
    have : (L.take (s.toNat + n - 1)).drop s.toNat = (L.drop s.toNat).take (n - 1) := by rw [List.drop_take]; congr 1; omega
    rw [this, e5]
  · exfalso
    unfold tk at h
    rw [if_neg hs] at h
    simp at h
theorem zig_lt {y : Int} (h0 : -9223372036854775808 <= y) (h1 : y <= 9223372036854775807) : zig y < 18446744073709551616 := by unfold zig; split <;> omega
theorem unz_bounds {x : Nat} (h : x < 18446744073709551616) : -9223372036854775808 <= unz x /\ unz x <= 9223372036854775807 := by unfold unz; split <;> omega
end Go.Proofs.YtaiackmmmlhgbaaGreat.Leb
namespace Go.Proofs.YtaiackmmmlhgbaaGreat.Leb
def cellsL (l : List UInt8) : List Value := l.map fun c => Value.int .u8 (c.toNat : Int)
theorem cellsL_length (l : List UInt8) : (cellsL l).length = l.length := List.length_map _
theorem cellsL_append (a b : List UInt8) : cellsL (a ++ b) = cellsL a ++ cellsL b := List.map_append
theorem one_cells (L : List UInt8) : ∀ u ∈ cellsL L, u.oneCell' = true := by
  intro u hu
  obtain ⟨_, _, rfl⟩ := List.mem_map.1 hu
  rfl
theorem info5 : (prog.info? 5).map (fun i => (i.zero, i.size, i.bytes)) = some (some (.int .u8 0), 1, 1) := by kernel_rfl
def Own (w : World) (B : Nat) (v : Value) (L : List UInt8) : Prop := w.ownsRow B 5 1 v L.length (cellsL L)
def Seen (w : World) (v : Value) (L : List UInt8) : Prop :=
  ∃ a cap, v = .slice a L.length cap /\ L.length <= cap /\ cap <= maxLen /\ (a = none -> cap = 0) /\ ∀ g o s, a = some ⟨g, o, s⟩ -> ∀ j (hj : j < L.length), s = none /\ w.cell? ⟨g, o + j, none⟩ = some (.int .u8 (L[j].toNat : Int))
theorem cell_new (w : World) (v : Value) (t : TypeId) : (w.alloc (.cells #[v] t)).cell? ⟨w.heap.size, 0, none⟩ = some v := by
  have h := heap_alloc_new w (.cells #[v] t)
  exact cell_of_one h
theorem add_none (g o j : Nat) : (⟨g, o, none⟩ : Addr).add j = ⟨g, o + j, none⟩ := by
  unfold Addr.add
  split
  · simp_all
  · rfl
theorem Own.seen {w : World} {B : Nat} {v : Value} {L : List UInt8} (h : Own w B v L) : Seen w v L := by
  rcases h.2 with ⟨rfl, h0⟩ | ⟨g, cap, cur, rfl, hb, hh, hn, hm, _⟩
  · have hL : L = [] := List.eq_nil_of_length_eq_zero h0
    subst hL
    exact ⟨none, 0, rfl, by simp, by simp, fun _ => rfl, fun g o s h => by cases h⟩
  · refine ⟨_, cap, rfl, hn, hm, (fun h => by cases h), fun g' o s h => ?_⟩
    cases h
    intro j hj
    refine ⟨rfl, ?_⟩
    have hc := World.ownsRow.cells (g := g) h rfl j (.int .u8 (L[j].toNat : Int)) (by simp [cellsL, hj])
    rw [add_none] at hc
    exact hc
theorem Own.kept {w w' : World} {B : Nat} {v : Value} {L : List UInt8} (h : Own w B v L) {row : Option Nat} (hg : w.grownBy w' row) (hne : v.ownBlock = none \/ v.ownBlock ≠ row) : Own w' B v L := World.ownsRow.kept h hg hne
end Go.Proofs.YtaiackmmmlhgbaaGreat.Leb
namespace Go.Proofs.YtaiackmmmlhgbaaGreat.Leb
theorem or_128 {a : Nat} (h : a < 256) : a ||| 128 = 128 + a % 128 := by
  have h2 : a % 256 = a := Nat.mod_eq_of_lt h
  have h1 : a ||| 128 = (a / 128 * 128) ||| 128 + a % 128 := by
    rcases (show a < 128 \/ 128 <= a by omega) with h3 | h3
    · have := nat_join 7 128 a (by decide) (by omega)
      rw [Nat.or_comm, this]
      have e : a / 128 = 0 := by omega
      rw [e]
      have e' : a % 128 = a := by omega
      rw [e']
      simp
    · have e : a / 128 = 1 := by omega
      have hs : a = 128 ||| a % 128 := by rw [nat_join 7 128 (a % 128) (by decide) (by omega)]; omega
      have hj := nat_join 7 128 (a % 128) (by decide) (by omega)
      rw [e, Nat.one_mul, <- hj]
      conv => lhs; rw [hs]
      rw [Nat.or_comm (128 ||| a % 128) 128]
  rw [h1]
  rcases (show a / 128 = 0 \/ a / 128 = 1 by omega) with e | e
  · rw [e]; simp
  · rw [e, Nat.one_mul]
    have hj := nat_join 7 128 (a % 128) (by decide) (by omega)
    rw [<- hj, <- Nat.or_assoc, Nat.or_self]
theorem bits_more (X : Nat) : bits .or .u8 ((X : Int) % 256) 128 = ((UInt8.ofNat (128 + X % 128)).toNat : Int) := by
  have e : ((X : Int) % 256) = ((X % 256 : Nat) : Int) := by omega
  have h := u8_or_nat (X % 256) 128 (by omega) (by omega)
  have e8 : ((128 : Nat) : Int) = 128 := rfl
  rw [e8] at h
  rw [e, h, or_128 (by omega), byte_of (by omega)]
  have : X % 256 % 128 = X % 128 := by omega
  rw [this]
theorem bits_less (c : Nat) (h : c < 256) : bits .andNot .u8 (c : Int) 128 = ((c % 128 : Nat) : Int) := by
  have h := u8_andNot_nat c 128 h (by omega)
  have e8 : ((128 : Nat) : Int) = 128 := rfl
  rw [e8] at h
  rw [h, nat_mask7]
theorem bits_join (X p i : Nat) (hi : i <= 63) (hX : X < 2 ^ i) (hp : p * 2 ^ i < 18446744073709551616) : bits .or .u64 (X : Int) ((p * 2 ^ i : Nat) : Int) = ((X + p * 2 ^ i : Nat) : Int) := by
  have h1 : 2 ^ i <= 2 ^ 63 := Nat.pow_le_pow_right (by omega) hi
  rw [u64_or_nat X _ (by omega) hp, Nat.or_comm, nat_join i (p * 2 ^ i) X (Nat.mul_mod_left _ _) hX, Nat.add_comm]
theorem bits_xor0 (a : Nat) (h : a < 18446744073709551616) : bits .xor .u64 (a : Int) 0 = (a : Int) := by
  have := u64_xor_nat a 0 h (by omega)
  simpa using this
theorem bits_xor1 (a : Nat) (h : a < 18446744073709551616) : bits .xor .u64 (a : Int) 18446744073709551615 = ((18446744073709551615 - a : Nat) : Int) := by
  have e : BitVec.ofInt 64 18446744073709551615 = BitVec.allOnes 64 := by decide
  have hb : (BitVec.ofInt 64 (a : Int)).toNat = a := ofInt_u64 a h
  show IntKind.u64.wrap ((BitVec.ofInt 64 (a : Int) ^^^ BitVec.ofInt 64 18446744073709551615).toNat : Int) = _
  rw [e, BitVec.xor_allOnes, BitVec.toNat_not, hb, IntKind.wrap_u64]
  omega
theorem bits_ixor0 (a : Nat) (h : a < 9223372036854775808) : bits .xor .i64 (a : Int) 0 = (a : Int) := by
  have e : BitVec.ofInt 64 0 = 0#64 := by decide
  have hb : (BitVec.ofInt 64 (a : Int)).toNat = a := ofInt_u64 a (by omega)
  show IntKind.i64.wrap ((BitVec.ofInt 64 (a : Int) ^^^ BitVec.ofInt 64 0).toNat : Int) = _
  rw [e, BitVec.xor_zero, hb]
  simp [IntKind.wrap, IntKind.bits, IntKind.signed]
  omega
theorem bits_ixor1 (a : Nat) (h : a < 9223372036854775808) : bits .xor .i64 (a : Int) (-1) = -(a : Int) - 1 := by
  have e : BitVec.ofInt 64 (-1) = BitVec.allOnes 64 := by decide
  have hb : (BitVec.ofInt 64 (a : Int)).toNat = a := ofInt_u64 a (by omega)
  show IntKind.i64.wrap ((BitVec.ofInt 64 (a : Int) ^^^ BitVec.ofInt 64 (-1)).toNat : Int) = _
  rw [e, BitVec.xor_allOnes, BitVec.toNat_not, hb]
  have e2 : ((2 ^ 64 - 1 - a : Nat) : Int) = 18446744073709551615 - (a : Int) := by omega
  rw [e2]
  simp [IntKind.wrap, IntKind.bits, IntKind.signed]
  omega
theorem bits_and1 (x : Nat) (h : x < 18446744073709551616) : bits .and .u64 (x : Int) 1 = ((x % 2 : Nat) : Int) := by
  have := u64_and_nat x 1 h (by omega)
  rw [nat_mask1] at this
  exact this
end Go.Proofs.YtaiackmmmlhgbaaGreat.Leb
namespace Go.Proofs.YtaiackmmmlhgbaaGreat.Leb
open Go.ChangeShapes Go.WideShapes Go.ChangeAt Go.RowKit
theorem cell_one_byte (wr : World) (c : Nat) (j : Nat) (u : Value) (hj : [Value.int .u8 (c : Int)][j]? = some u) :
    (wr.alloc (.cells #[.int .u8 (c : Int)] 5)).cell? ((⟨wr.heap.size, 0, none⟩ : Addr).add j) = some u := by
  cases j with
  | zero => simp at hj; subst hj; exact cell_new _ _ _
  | succ j => simp at hj
theorem own_more {w' : World} {B : Nat} {v : Value} {L : List UInt8} {c : UInt8} (h : w'.ownsRow B 5 1 v (L.length + 1) (cellsL L ++ [.int .u8 (c.toNat : Int)])) : Own w' B v (L ++ [c]) := by
  unfold Own
  rw [cellsL_append, List.length_append]
  exact h
theorem put_c (N : Nat) (hN : N < 18446744073709551616) (w : World) :
    Calls prog 220 #[.int .u64 N] w fun e w' => ∃ v, e = .returned v /\ Own w' w.heap.size v (putL N) /\ Below w.heap.size w w' := by
  obtain ⟨i0, hi, hz0, hz1, hz2⟩ := info_parts info5
  have hlen := putL_len hN
  go_enter func220, ntmps220
  go_wp2
  go_loopw [0, 3] (fun x v wr => ∃ (X : Nat) (L : List UInt8), x = .int .u64 X /\ X <= N /\ L.length <= 10 /\ Below w.heap.size w wr /\ Own wr w.heap.size v L /\ Hid (L ++ putL X = putL N)) (fun x _ _ => (intOf x).toNat)
  case atStart => exact ⟨N, [], rfl, by omega, by simp, Below.refl _ _, World.ownsRow_nil _ _ _ _, rfl⟩
  case round =>
    obtain ⟨X, L, rfl, hX, hL, hb, hown, HW⟩ := hrel
    have hsz := hb.size
    by_cases hx : X < 128
    · have hx' : ¬ (128 : Int) <= X := by omega
      obtain ⟨c, hc⟩ : ∃ c : UInt8, (c.toNat : Int) = (X : Int) := ⟨UInt8.ofNat X, by rw [byte_of (by omega)]⟩
      have HC : Hid (putL X = [c]) := by
        have e : c = UInt8.ofNat X := UInt8.toNat_inj.1 (by rw [byte_of (by omega)]; omega)
        rw [e]; exact putL_small hx
      go_wp2_with (first
            | (at_builtin; refine wpList_append_own _ rfl _ _ 22 rfl w.heap.size 5 i0 (.int .u8 0) 1 1 underlying22 hi hz0 hz1 hz2 rfl (by decide) _ _ _ rfl (World.ownsRow.alloc hown _) ⟨wr.heap.size, 0, none⟩ 1 1 [.int .u8 (X : Int)] rfl rfl (cell_one_byte _ X) (by intro u hu; simp at hu; subst hu; rfl) (by unfold maxLen; omega) (by omega) (by simp; omega) ?_))
      intro v' w2 hown' hgrow _
      have hb3 := (hb.alloc hsz (.cells #[.int .u8 (X : Int)] 5)).grown hgrow (by simp; omega) (fun k hk => (World.ownsRow.lt hown k hk).1)
      rw [<- hc] at hown'
      have ho := own_more hown'
      rw [<- HC.out, HW.out] at ho
      clear hown' hgrow hown hb HW
      go_wp2
      go_ret
      exact ⟨_, rfl, ho, hb3⟩
    · have hx' : (128 : Int) <= X := by omega
      obtain ⟨c, hc⟩ : ∃ c : UInt8, c = UInt8.ofNat (128 + X % 128) := ⟨_, rfl⟩
      have hbit : bits .or .u8 ((X : Int) % 256) 128 = (c.toNat : Int) := by rw [bits_more, hc]
      have HC : Hid (putL X = c :: putL (X / 128)) := by rw [hc]; exact putL_big hx
      clear hc
      go_wp2_with (first
            | (at_builtin; refine wpList_append_own _ rfl _ _ 22 rfl w.heap.size 5 i0 (.int .u8 0) 1 1 underlying22 hi hz0 hz1 hz2 rfl (by decide) _ _ _ rfl (World.ownsRow.alloc hown _) ⟨wr.heap.size, 0, none⟩ 1 1 [.int .u8 (c.toNat : Int)] rfl rfl (cell_one_byte _ c.toNat) (by intro u hu; simp at hu; subst hu; rfl) (by unfold maxLen; omega) (by omega) (by simp; omega) ?_))
      intro v' w2 hown' hgrow _
      have hb3 := (hb.alloc hsz (.cells #[.int .u8 (c.toNat : Int)] 5)).grown hgrow (by simp; omega) (fun k hk => (World.ownsRow.lt hown k hk).1)
      have ho := own_more hown'
      have HW2 : Hid (L ++ [c] ++ putL (X / 128) = putL N) := by show _ = _; rw [<- HW.out, HC.out]; simp
      have hl : (L ++ [c]).length <= 10 := by have := congrArg List.length HW2.out; rw [List.length_append] at this; omega
      clear hown' hgrow hown hb HW HC
      go_wp2
      go_roundw
      case rel => exact ⟨X / 128, L ++ [c], by go_num, by omega, hl, hb3, ho, HW2⟩
      case measure => simp only [intOf]; omega
theorem fold_c (y : Int) (h0 : -9223372036854775808 <= y) (h1 : y <= 9223372036854775807) (w : World) :
    Calls prog 226 #[.int .i64 y] w fun e w' => e = .returned (.int .u64 (zig y)) /\ w' = w := by
  by_cases hy : y < 0
  · have e1 : y / 9223372036854775808 = -1 := by omega
    have key : bits .xor .u64 (IntKind.u64.wrap (IntKind.u64.wrap y * 2)) (IntKind.u64.wrap (-1)) = (zig y : Int) := by
      have e2 : IntKind.u64.wrap (IntKind.u64.wrap y * 2) = ((2 * y + 18446744073709551616).toNat : Int) := by rw [IntKind.wrap_u64, IntKind.wrap_u64]; omega
      have e3 : IntKind.u64.wrap (-1) = 18446744073709551615 := by rw [IntKind.wrap_u64]; omega
      rw [e2, e3, bits_xor1 _ (by omega)]
      unfold zig
      rw [if_pos hy]
      omega
    go_enter func226, ntmps226
    go_wp2
    go_ret
    exact ⟨rfl, rfl⟩
  · have key : bits .xor .u64 (y * 2) (y / 9223372036854775808) = (zig y : Int) := by
      have e2 : y * 2 = ((2 * y).toNat : Int) := by omega
      have e3 : y / 9223372036854775808 = 0 := by omega
      rw [e2, e3, bits_xor0 _ (by omega)]
      unfold zig
      rw [if_neg hy]
    go_enter func226, ntmps226
    go_wp2
    go_ret
    exact ⟨rfl, rfl⟩
theorem unfold_c (x : Nat) (h : x < 18446744073709551616) (w : World) :
    Calls prog 201 #[.int .u64 x] w fun e w' => e = .returned (.int .i64 (unz x)) /\ w' = w := by
  have e := bits_and1 x h
  have e2 : (x : Int) / 2 = ((x / 2 : Nat) : Int) := by omega
  by_cases hy : x % 2 = 0
  · have key : bits .xor .i64 ((x : Int) / 2) 0 = unz x := by
      rw [e2, bits_ixor0 _ (by omega)]
      unfold unz
      rw [if_pos hy]
    rw [hy] at e
    clear e2
    go_enter func201, ntmps201
    go_wp2
    go_ret
    exact ⟨rfl, rfl⟩
  · have key : bits .xor .i64 ((x : Int) / 2) (-1) = unz x := by
      rw [e2, bits_ixor1 _ (by omega)]
      unfold unz
      rw [if_neg hy]
    have hy' : x % 2 = 1 := by omega
    rw [hy'] at e
    clear e2
    go_enter func201, ntmps201
    go_wp2
    go_ret
    exact ⟨rfl, rfl⟩
theorem put_i (n : Int) (h0 : 0 <= n) (h1 : n < 18446744073709551616) (w : World) :
    Calls prog 220 #[.int .u64 n] w fun e w' => ∃ v, e = .returned v /\ Own w' w.heap.size v (putL n.toNat) /\ Below w.heap.size w w' := by
  have := put_c n.toNat (by omega) w
  rw [Int.toNat_of_nonneg h0] at this
  exact this
theorem puti_c (y : Int) (h0 : -9223372036854775808 <= y) (h1 : y <= 9223372036854775807) (w : World) :
    Calls prog 223 #[.int .i64 y] w fun e w' => ∃ v, e = .returned v /\ Own w' w.heap.size v (putL (zig y)) /\ Below w.heap.size w w' := by
  go_enter func223, ntmps223
  go_wp2_with (first | (go_at_call 226; refine (fold_c _ (by assumption) (by assumption) _).mono ?_; rintro e w' ⟨rfl, rfl⟩) | (go_at_call 220; refine (put_c _ (zig_lt h0 h1) _).mono ?_; rintro e w' ⟨v, rfl, ho, hb⟩))
  go_ret
  exact ⟨_, rfl, ho, hb⟩
end Go.Proofs.YtaiackmmmlhgbaaGreat.Leb
namespace Go.Proofs.YtaiackmmmlhgbaaGreat.Leb
open Go.ChangeShapes Go.WideShapes Go.ChangeAt Go.RowKit
def tkV (r : Nat × Nat × Nat) : Value := .tuple #[.int .u64 (r.1 : Int), .int .i64 (r.2.1 : Int), .int .i64 (r.2.2 : Int)]
theorem tk_out {L : List UInt8} {s : Int} (h : s < 0 \/ L.length < s) : tk L s = (0, 0, 200) := by
  unfold tk
  rw [if_neg (by omega)]
theorem take_out (v : Value) (L : List UInt8) (s : Int) (w : World) (hS : Seen w v L) (h : s < 0 \/ L.length < s) :
    Calls prog 160 #[v, .int .i64 s] w fun e w' => e = .returned (tkV (tk L s)) /\ w' = w := by
  obtain ⟨a, cap, rfl, hlc, hm, hnil, hcell⟩ := hS
  rw [tk_out h]
  by_cases hn : s < 0
  · go_enter func160, ntmps160
    go_wp2
    go_ret3
    exact ⟨rfl, rfl⟩
  · have h2 : (L.length : Int) < s := by omega
    go_enter func160, ntmps160
    go_wp2
    go_ret3
    exact ⟨rfl, rfl⟩
theorem take_end (a : Option Addr) (n cap : Nat) (w : World) (hlc : n <= cap) (hm : cap <= maxLen) (hnil : a = none -> cap = 0) :
    Calls prog 160 #[.slice a n cap, .int .i64 n] w fun e w' => e = .returned (tkV (0, 0, 200)) /\ w' = w := by
  unfold maxLen at hm
  cases a with
  | none =>
    obtain rfl := hnil rfl
    obtain rfl : n = 0 := by omega
    go_enter func160, ntmps160
    go_wp2
    refine wp_loop_rounds 1 ?_
    rw [rounds_succ]
    go_wp2
    go_ret3
    exact ⟨rfl, rfl⟩
  | some x =>
    by_cases hc : cap = n
    · go_enter func160, ntmps160
      go_wp2
      refine wp_loop_rounds 1 ?_
      rw [rounds_succ]
      go_wp2
      go_ret3
      exact ⟨rfl, rfl⟩
    · go_enter func160, ntmps160
      go_wp2
      refine wp_loop_rounds 1 ?_
      rw [rounds_succ]
      go_wp2
      go_ret3
      exact ⟨rfl, rfl⟩
theorem bits_step (X c i : Nat) (k : Int) (hk : 7 * (i : Int) = k) (hi : i <= 8) (hX : X < 2 ^ (7 * i)) :
    bits .or .u64 (X : Int) (IntKind.u64.wrap ((c : Int) % 128 * 2 ^ k.toNat)) = ((X + c % 128 * 2 ^ (7 * i) : Nat) : Int) := by
  have e : k.toNat = 7 * i := by omega
  have e2 : (c : Int) % 128 * 2 ^ (7 * i) = ((c % 128 * 2 ^ (7 * i) : Nat) : Int) := by simp
  have h4 : 2 ^ (7 * i) <= 2 ^ 56 := Nat.pow_le_pow_right (by omega) (by omega)
  have h5 : c % 128 * 2 ^ (7 * i) <= 127 * 2 ^ 56 := Nat.mul_le_mul (by omega) h4
  rw [e, e2, IntKind.wrap_u64, Int.emod_eq_of_lt (by omega) (by omega), bits_join X (c % 128) (7 * i) (by omega) hX (by omega)]
theorem take_in (g o cap m n : Nat) (R : List UInt8) (w : World) (hR : R.length = m) (h0 : 0 < m) (hlc : n + m <= cap) (hm : cap <= maxLen)
    (hcell : Hid (∀ j (hj : j < R.length), w.cell? ⟨g, o + n + j, none⟩ = some (.int .u8 (R[j].toNat : Int)))) :
    Calls prog 160 #[.slice (some ⟨g, o, none⟩) (n + m) cap, .int .i64 n] w fun e w' => e = .returned (tkV (takeGo n R 0 0)) /\ w' = w := by
  unfold maxLen at hm
  have hc : ¬ cap = n := by omega
  go_enter func160, ntmps160
  go_wp2
  go_loop [7, 22] (fun x t => ∃ (i X : Nat), x = .int .u64 X /\ t = .int .i64 i /\ i <= m /\ i <= 9 /\ Hid (X < 2 ^ (7 * i)) /\ Hid (takeGo n (R.drop i) i X = takeGo n R 0 0)) (fun _ t => m - (intOf t).toNat)
  case atStart => exact ⟨0, 0, rfl, rfl, by omega, by omega, by show _ < _; simp, by show _ = _; simp⟩
  case round =>
    obtain ⟨i, X, rfl, rfl, him, hi9, hX, HT⟩ := hrel
    by_cases hi : i < m
    · obtain ⟨c, hc⟩ : ∃ c : UInt8, c = R[i] := ⟨_, rfl⟩
      have hcl := hcell.out i (by omega)
      rw [<- hc] at hcl
      have hd : R.drop i = c :: R.drop (i + 1) := by rw [List.drop_eq_getElem_cons (by omega), hc]
      rw [hd, takeGo_cons] at HT
      have hclt : c.toNat < 256 := c.toNat_lt
      have hband := bits_less c.toNat hclt
      clear hc hd
      by_cases h1 : i = 9 /\ 1 < c.toNat
      · rw [if_pos h1] at HT
        obtain ⟨rfl, h1⟩ := h1
        have h1' : (1 : Int) < (c.toNat : Int) := by omega
        go_wp2
        go_ret3
        rw [<- HT.out]
        exact ⟨rfl, rfl⟩
      · rw [if_neg h1] at HT
        by_cases h2 : 0 < i /\ c.toNat = 0
        · rw [if_pos h2] at HT
          obtain ⟨h2, h3⟩ := h2
          have h9 : ¬ ((1 : Int) < (c.toNat : Int)) := by omega
          have h2' : (0 : Int) < (i : Int) := by omega
          have h3' : ((c.toNat : Int) == 0) = true := by simp; omega
          go_wp2
          all_goals go_ret3
          all_goals rw [<- HT.out]
          all_goals exact ⟨rfl, rfl⟩
        · rw [if_neg h2] at HT
          by_cases h9 : i = 9
          · subst h9
            have hc1 : c.toNat = 1 := by omega
            rw [if_pos (by omega)] at HT
            obtain ⟨Y, hY⟩ : ∃ Y, Y = X + c.toNat * 2 ^ (7 * 9) := ⟨_, rfl⟩
            rw [<- hY] at HT
            have hbo : bits .or .u64 (X : Int) ((c.toNat : Int) % 128 * 9223372036854775808) = (Y : Int) := by
              have h := bits_join X c.toNat (7 * 9) (by omega) hX.out (by rw [hc1]; omega)
              rw [<- hY, hc1] at h
              rw [hc1]
              exact h
            have g1 : ¬ ((1 : Int) < (c.toNat : Int)) := by omega
            have g2 : ((c.toNat : Int) == 0) = false := by simp; omega
            have g3 : (c.toNat : Int) < 128 := by omega
            clear hc1 hY h1 h2
            go_wp2
            go_ret3
            rw [<- HT.out]
            exact ⟨rfl, rfl⟩
          · obtain ⟨k, hk⟩ : ∃ k : Int, 7 * (i : Int) = k := ⟨_, rfl⟩
            have hk0 : 0 <= k := by omega
            have hk1 : k <= 63 := by omega
            obtain ⟨Y, hY⟩ : ∃ Y, Y = X + c.toNat % 128 * 2 ^ (7 * i) := ⟨_, rfl⟩
            have hbo := bits_step X c.toNat i k hk (by omega) hX.out
            have hYl : Hid (Y < 2 ^ (7 * (i + 1))) := by
              show _ < _
              have hXo := hX.out
              have h5 : c.toNat % 128 * 2 ^ (7 * i) <= 127 * 2 ^ (7 * i) := Nat.mul_le_mul_right _ (by omega)
              rw [hY, pow_step]
              omega
            rw [<- hY] at hbo HT
            by_cases h3 : c.toNat < 128
            · rw [if_pos h3] at HT
              have hm128 : c.toNat % 128 = c.toNat := Nat.mod_eq_of_lt h3
              rw [hm128] at hY
              rw [<- hY] at HT
              clear hm128 hY
              go_wp2
              all_goals go_ret3
              all_goals rw [<- HT.out]
              all_goals exact ⟨rfl, rfl⟩
            · rw [if_neg h3] at HT
              clear hY
              go_wp2
              all_goals go_round
              all_goals first | exact ⟨i + 1, Y, rfl, by go_num, by omega, by omega, hYl, HT⟩ | (simp only [intOf]; omega)
    · obtain rfl : i = m := by omega
      have hd : R.drop i = [] := by rw [List.drop_eq_nil_iff]; omega
      rw [hd] at HT
      go_wp2
      go_ret3
      rw [<- HT.out]
      exact ⟨rfl, rfl⟩
theorem take_c (v : Value) (L : List UInt8) (s : Int) (w : World) (hS : Seen w v L) :
    Calls prog 160 #[v, .int .i64 s] w fun e w' => e = .returned (tkV (tk L s)) /\ w' = w := by
  by_cases h : s < 0 \/ L.length < s
  · exact take_out v L s w hS h
  · obtain ⟨a, cap, rfl, hlc, hm, hnil, hcell⟩ := hS
    obtain ⟨n, rfl⟩ : ∃ n : Nat, s = (n : Int) := ⟨s.toNat, by omega⟩
    have et : tk L (n : Int) = takeGo n (L.drop n) 0 0 := by unfold tk; rw [if_pos (by omega)]; simp
    rw [et]
    by_cases hn : n = L.length
    · subst hn
      rw [List.drop_eq_nil_of_le (Nat.le_refl _)]
      exact take_end a _ cap w hlc hm hnil
    · cases a with
      | none => have := hnil rfl; omega
      | some x =>
        obtain ⟨g, o, sp⟩ := x
        obtain rfl : sp = none := (hcell g o sp rfl 0 (by omega)).1
        have hl : L.length = n + (L.length - n) := by omega
        have := take_in g o cap (L.length - n) n (L.drop n) w (List.length_drop) (by omega) (by omega) hm (by
          intro j hj
          rw [List.length_drop] at hj
          have := (hcell g o none rfl (n + j) (by omega)).2
          rw [Nat.add_assoc, this, List.getElem_drop])
        rw [<- hl] at this
        exact this
end Go.Proofs.YtaiackmmmlhgbaaGreat.Leb
namespace Go.Proofs.YtaiackmmmlhgbaaGreat.UBase
def at' (s : ByteArray) (i : Nat) : Nat := (s.get! i).toNat
def tl (s : ByteArray) (i : Nat) : Bool := decide (i < s.size) && (decide (128 <= at' s i) && decide (at' s i < 192))
def len (s : ByteArray) (i : Nat) : Nat :=
  if at' s i < 128 then 1
  else if 194 <= at' s i /\ at' s i < 224 /\ tl s (i + 1) = true then 2
  else if 224 <= at' s i /\ at' s i < 240 /\ tl s (i + 1) = true /\ tl s (i + 2) = true then
    (if (at' s i = 224 /\ at' s (i + 1) < 160) \/ (at' s i = 237 /\ 160 <= at' s (i + 1)) then 0 else 3)
  else if 240 <= at' s i /\ at' s i < 245 /\ tl s (i + 1) = true /\ tl s (i + 2) = true /\ tl s (i + 3) = true then
    (if (at' s i = 240 /\ at' s (i + 1) < 144) \/ (at' s i = 244 /\ 144 <= at' s (i + 1)) then 0 else 4)
  else 0
def bad (s : ByteArray) (i : Nat) : Option Nat := if i < s.size then (if len s i = 0 then some i else bad s (i + len s i)) else none
  termination_by s.size - i
  decreasing_by omega
def vat (s : ByteArray) : Nat := (bad s 0).getD 0
def verr (s : ByteArray) : Nat := if bad s 0 = none then 0 else 300
def rep (s : ByteArray) (i : Nat) : Bool := decide (at' s i = 239) && (decide (at' s (i + 1) = 191) && decide (at' s (i + 2) = 189))
def let' (c : Nat) : Bool := decide (97 <= c) && decide (c <= 122)
def dig (c : Nat) : Bool := decide (48 <= c) && decide (c <= 57)
def sign (j c : Nat) : Bool := let' c || (dig c || decide (c = j))
def word (s : ByteArray) (j : Nat) : Bool := decide (0 < s.size) && (decide (s.size <= 32) && (let' (at' s 0) && decide (∀ i, i < s.size -> sign j (at' s i) = true)))
theorem at_get (s : ByteArray) (i : Nat) (h : i < s.size) : at' s i = (s[i]'h).toNat := by
  unfold at'
  rw [show s.get! i = s.get! (i + 0) from rfl, get_at s i h]
theorem at_out (s : ByteArray) (i : Nat) (h : ¬ i < s.size) : at' s i = 0 := by
  unfold at'
  simp only [ByteArray.get!]
  have h' : ¬ i < s.data.size := h
  rw [getElem!_neg (c := s.data) (i := i) h']
  rfl
theorem at_lt (s : ByteArray) (i : Nat) : at' s i < 256 := UInt8.toNat_lt _
theorem tl_iff (s : ByteArray) (i : Nat) : tl s i = true ↔ (128 <= at' s i /\ at' s i < 192) := by
  unfold tl
  by_cases h : i < s.size
  · simp [h]
  · have := at_out s i h
    simp [h, this]
theorem bad_step {s : ByteArray} {i : Nat} (h : i < s.size) (hl : len s i ≠ 0) : bad s i = bad s (i + len s i) := by
  rw [bad, if_pos h, if_neg hl]
theorem bad_here {s : ByteArray} {i : Nat} (h : i < s.size) (hl : len s i = 0) : bad s i = some i := by
  rw [bad, if_pos h, if_pos hl]
theorem bad_end {s : ByteArray} {i : Nat} (h : ¬ i < s.size) : bad s i = none := by
  rw [bad, if_neg h]
theorem len_parts (s : ByteArray) (i : Nat) :
    (len s i = 0) \/ (len s i = 1 /\ at' s i < 128) \/ (len s i = 2 /\ 194 <= at' s i /\ tl s (i + 1) = true) \/ (len s i = 3 /\ 194 <= at' s i /\ tl s (i + 1) = true /\ tl s (i + 2) = true) \/ (len s i = 4 /\ 194 <= at' s i /\ tl s (i + 1) = true /\ tl s (i + 2) = true /\ tl s (i + 3) = true) := by
  unfold len
  repeat' split
  all_goals first
    | (left; rfl)
    | (right; left; exact ⟨rfl, by omega⟩)
    | (rename_i h; right; right; left; exact ⟨rfl, by omega, h.2.2⟩)
    | (rename_i h _; right; right; right; left; exact ⟨rfl, by omega, h.2.2⟩)
    | (rename_i h _; right; right; right; right; exact ⟨rfl, by omega, h.2.2⟩)
theorem len_in {s : ByteArray} {i : Nat} (h : i < s.size) : i + len s i <= s.size := by
  have t (j : Nat) (hj : tl s j = true) : j < s.size := by unfold tl at hj; simp at hj; exact hj.1
  rcases len_parts s i with e | ⟨e, _⟩ | ⟨e, _, h1⟩ | ⟨e, _, h1, h2⟩ | ⟨e, _, h1, h2, h3⟩
  · omega
  · omega
  · have := t _ h1; omega
  · have := t _ h2; omega
  · have := t _ h3; omega
def dec4 (a b c d : Nat) : Nat × Nat :=
  if a < 128 then (a, 1)
  else if a / 32 = 6 /\ b / 64 = 2 then (if 128 <= a % 32 * 64 + b % 64 then (a % 32 * 64 + b % 64, 2) else (65533, 1))
  else if a / 16 = 14 /\ b / 64 = 2 /\ c / 64 = 2 then
    (if 2048 <= a % 16 * 4096 + b % 64 * 64 + c % 64 /\ (a % 16 * 4096 + b % 64 * 64 + c % 64 < 55296 \/ (57344 <= a % 16 * 4096 + b % 64 * 64 + c % 64 /\ a % 16 * 4096 + b % 64 * 64 + c % 64 <= 1114111)) then (a % 16 * 4096 + b % 64 * 64 + c % 64, 3) else (65533, 1))
  else if a / 8 = 30 /\ b / 64 = 2 /\ c / 64 = 2 /\ d / 64 = 2 then
    (if 65536 <= a % 8 * 262144 + b % 64 * 4096 + c % 64 * 64 + d % 64 /\ (a % 8 * 262144 + b % 64 * 4096 + c % 64 * 64 + d % 64 < 55296 \/ (57344 <= a % 8 * 262144 + b % 64 * 4096 + c % 64 * 64 + d % 64 /\ a % 8 * 262144 + b % 64 * 4096 + c % 64 * 64 + d % 64 <= 1114111)) then (a % 8 * 262144 + b % 64 * 4096 + c % 64 * 64 + d % 64, 4) else (65533, 1))
  else (65533, 1)
def len4 (a b c d : Nat) : Nat :=
  if a < 128 then 1
  else if 194 <= a /\ a < 224 /\ (128 <= b /\ b < 192) then 2
  else if 224 <= a /\ a < 240 /\ (128 <= b /\ b < 192) /\ (128 <= c /\ c < 192) then (if (a = 224 /\ b < 160) \/ (a = 237 /\ 160 <= b) then 0 else 3)
  else if 240 <= a /\ a < 245 /\ (128 <= b /\ b < 192) /\ (128 <= c /\ c < 192) /\ (128 <= d /\ d < 192) then (if (a = 240 /\ b < 144) \/ (a = 244 /\ 144 <= b) then 0 else 4)
  else 0
theorem len_eq (s : ByteArray) (i : Nat) : len s i = len4 (at' s i) (at' s (i + 1)) (at' s (i + 2)) (at' s (i + 3)) := by
  simp only [len, len4, tl_iff]
theorem dec_eq (s : ByteArray) (i : Nat) : Utf8.decode s i = dec4 (at' s i) (at' s (i + 1)) (at' s (i + 2)) (at' s (i + 3)) := by
  have k (j : Nat) : (decide (i + j < s.size) && at' s (i + j) / 64 == 2) = decide (at' s (i + j) / 64 = 2) := by
    by_cases h : i + j < s.size
    · simp [h]; rfl
    · have := at_out s _ h
      simp [h, this]
  have e (j : Nat) : (s.get! (i + j)).toNat = at' s (i + j) := rfl
  have e0 : (s.get! (i + 0)).toNat = at' s i := rfl
  simp only [Utf8.decode, e0, e, k, dec4, Utf8.runeError, Utf8.valid]
  generalize at' s i = a at *
  generalize at' s (i + 1) = b at *
  generalize at' s (i + 2) = c at *
  generalize at' s (i + 3) = d at *
  clear k e e0
  simp only [Bool.and_eq_true, decide_eq_true_eq, beq_iff_eq, Bool.or_eq_true, and_assoc, ge_iff_le]
  have v (n : Nat) : ((0 <= (n : Int) /\ (n : Int) < 55296) \/ (57344 <= (n : Int) /\ (n : Int) <= 1114111)) ↔ (n < 55296 \/ (57344 <= n /\ n <= 1114111)) := by omega
  simp only [v]
theorem four (a b c d : Nat) (ha : a < 256) (hb : b < 256) (hc : c < 256) (hd : d < 256) :
    (len4 a b c d = 0 ↔ ((dec4 a b c d).1 = 65533 /\ ¬ (a = 239 /\ b = 191 /\ c = 189))) /\ (len4 a b c d ≠ 0 -> (dec4 a b c d).2 = len4 a b c d) /\ ((dec4 a b c d).1 = 10 ↔ a = 10) := by
  by_cases h1 : a < 128
  · simp [len4, dec4, h1]; omega
  by_cases h2 : a / 32 = 6
  · by_cases h3 : b / 64 = 2
    · have e3 : 128 <= b /\ b < 192 := by omega
      have e4 : ¬ (224 <= a) := by omega
      have e5 : ¬ (240 <= a) := by omega
      simp only [len4, dec4, h1, h2, h3, e3, e4, e5, true_and, false_and, if_true, if_false, and_true]
      repeat' split
      all_goals (refine ⟨⟨fun h => ?_, fun h => ?_⟩, fun h => ?_, ⟨fun h => ?_, fun h => ?_⟩⟩ <;> (try dsimp only at *) <;> first | omega | (simp only [true_and]; omega))
    · have e3 : ¬ (128 <= b /\ b < 192) := by omega
      have e4 : ¬ (a / 16 = 14) := by omega
      have e5 : ¬ (a / 8 = 30) := by omega
      simp only [len4, dec4, h1, h2, h3, e3, e4, e5, true_and, false_and, and_false, if_false]
      (refine ⟨⟨fun h => ?_, fun h => ?_⟩, fun h => ?_, ⟨fun h => ?_, fun h => ?_⟩⟩ <;> (try dsimp only at *) <;> first | omega | (simp only [true_and]; omega))
  have h2' : ¬ (194 <= a /\ a < 224) := by omega
  have h2'' : ¬ (194 <= a /\ a < 224 /\ (128 <= b /\ b < 192)) := by omega
  by_cases h3 : a / 16 = 14
  · have e5 : ¬ (240 <= a) := by omega
    have e6 : ¬ (a / 8 = 30) := by omega
    have e7 : 224 <= a := by omega
    have e8 : a < 240 := by omega
    by_cases h4 : b / 64 = 2
    · have e3 : 128 <= b /\ b < 192 := by omega
      by_cases h5 : c / 64 = 2
      · have e4 : 128 <= c /\ c < 192 := by omega
        simp only [len4, dec4, h1, h2, h2', h3, h4, h5, e3, e4, e5, e6, e7, e8, true_and, false_and, if_true, if_false, and_true]
        repeat' split
        all_goals (refine ⟨⟨fun h => ?_, fun h => ?_⟩, fun h => ?_, ⟨fun h => ?_, fun h => ?_⟩⟩ <;> (try dsimp only at *) <;> first | omega | (simp only [true_and]; omega))
      · have e4 : ¬ (128 <= c /\ c < 192) := by omega
        simp only [len4, dec4, h1, h2, h2', h3, h4, h5, e3, e4, e5, e6, e7, e8, true_and, false_and, and_false, if_false, and_true]
        (refine ⟨⟨fun h => ?_, fun h => ?_⟩, fun h => ?_, ⟨fun h => ?_, fun h => ?_⟩⟩ <;> (try dsimp only at *) <;> first | omega | (simp only [true_and]; omega))
    · have e3 : ¬ (128 <= b /\ b < 192) := by omega
      simp only [len4, dec4, h1, h2, h3, h4, e3, e5, e6, e7, e8, true_and, false_and, and_false, if_false]
      (refine ⟨⟨fun h => ?_, fun h => ?_⟩, fun h => ?_, ⟨fun h => ?_, fun h => ?_⟩⟩ <;> (try dsimp only at *) <;> first | omega | (simp only [true_and]; omega))
  have h3' : ¬ (224 <= a /\ a < 240 /\ (128 <= b /\ b < 192) /\ (128 <= c /\ c < 192)) := by omega
  by_cases h4 : a / 8 = 30
  · have e5 : 240 <= a := by omega
    by_cases h5 : b / 64 = 2 /\ c / 64 = 2 /\ d / 64 = 2
    · obtain ⟨h6, h7, h8⟩ := h5
      have e3 : 128 <= b /\ b < 192 := by omega
      have e4 : 128 <= c /\ c < 192 := by omega
      have e6 : 128 <= d /\ d < 192 := by omega
      simp only [len4, dec4, h1, h2, h3, h4, h6, h7, h8, e3, e4, e5, e6, true_and, if_true, if_false, and_true]
      repeat' split
      all_goals (refine ⟨⟨fun h => ?_, fun h => ?_⟩, fun h => ?_, ⟨fun h => ?_, fun h => ?_⟩⟩ <;> (try dsimp only at *) <;> first | omega | (simp only [true_and]; omega))
    · have e3 : ¬ (240 <= a /\ a < 245 /\ (128 <= b /\ b < 192) /\ (128 <= c /\ c < 192) /\ (128 <= d /\ d < 192)) := by omega
      have e4 : ¬ (a / 8 = 30 /\ b / 64 = 2 /\ c / 64 = 2 /\ d / 64 = 2) := fun h => h5 h.2
      simp only [len4, dec4, h1, h2, h2'', h3, h3', e3, e4, false_and, if_false]
      (refine ⟨⟨fun h => ?_, fun h => ?_⟩, fun h => ?_, ⟨fun h => ?_, fun h => ?_⟩⟩ <;> (try dsimp only at *) <;> first | omega | (simp only [true_and]; omega))
  · have e3 : ¬ (240 <= a /\ a < 245 /\ (128 <= b /\ b < 192) /\ (128 <= c /\ c < 192) /\ (128 <= d /\ d < 192)) := by omega
    simp only [len4, dec4, h1, h2, h2'', h3, h3', h4, e3, false_and, if_false]
    (refine ⟨⟨fun h => ?_, fun h => ?_⟩, fun h => ?_, ⟨fun h => ?_, fun h => ?_⟩⟩ <;> (try dsimp only at *) <;> first | omega | (simp only [true_and]; omega))
theorem dec_len (s : ByteArray) (i : Nat) :
    (len s i = 0 ↔ ((Utf8.decode s i).1 = 65533 /\ rep s i = false)) /\ (len s i ≠ 0 -> (Utf8.decode s i).2 = len s i) /\ ((Utf8.decode s i).1 = 10 ↔ at' s i = 10) := by
  have h := four (at' s i) (at' s (i + 1)) (at' s (i + 2)) (at' s (i + 3)) (at_lt ..) (at_lt ..) (at_lt ..) (at_lt ..)
  rw [<- len_eq, <- dec_eq] at h
  have e : rep s i = false ↔ ¬ (at' s i = 239 /\ at' s (i + 1) = 191 /\ at' s (i + 2) = 189) := by unfold rep; simp
  rw [e]
  exact h
end Go.Proofs.YtaiackmmmlhgbaaGreat.UBase

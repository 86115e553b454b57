import Derived.Laws.BytesArg
import Derived.Laws.Entries
import Derived.Laws.ResultCell
import Derived.Lib.ItoaMem
import Derived.LoopN
import Derived.LoopTactic
import Derived.OpenShut
import Derived.ProofKit
import Derived.WalkKit
import Derived.WalkLawsBesides
import Derived.Test.YthjbknncbhkinaaGreatDoorPS00
import Derived.Test.YthjbknncbhkinaaGreatDoorPS01
import Derived.Test.YthjbknncbhkinaaGreatDoorPS02
import Derived.Test.YthjbknncbhkinaaGreatDoorPS03
import Derived.Test.YthjbknncbhkinaaGreatDoorPS06
open Go.Proofs.Tryz
set_option linter.unusedVariables false
namespace Go.Proofs.YthjbknncbhkinaaGreatDoor.Digits
open Go.ChangeShapes Go.WideShapes Go.ChangeAt Go.RowKit
def Tab (w : World) : Prop := Lib.TabIs prog w "internal/strconv.uint64pow10" .u64 Lib.pow10Tab
theorem gPow : ∃ g, prog.globalNamed "internal/strconv.uint64pow10" = some g := ⟨1, by kernel_rfl⟩
theorem Tab.later {w w' : World} (h : Tab w) (hb : Below w.heap.size w w') : Tab w' := by
 obtain ⟨g, hg⟩ := gPow
 unfold Tab Lib.TabIs at h ⊢
 unfold World.var? at h ⊢
 rw [hg] at h ⊢
 simp only [Option.bind_some] at h ⊢
 have hlt : g < w.heap.size := by
  rcases Nat.lt_or_ge g w.heap.size with h' | h'
  ·exact h'
  ·rw [Array.getElem?_eq_none h'] at h; cases h
 rw [hb.block g hlt]
 exact h
theorem below_grow (w : World) (k : Nat) (os : Array Obj) : Below w.heap.size w (Sort.grow (w.drewN k) os) := by
 refine ⟨rfl, rfl, rfl, ?_, fun j hj => ?_⟩
 ·show w.heap.size <= (w.heap ++ os).size
  rw [Array.size_append]; omega
 ·show (w.heap ++ os)[j]? = w.heap[j]?
  rw [Array.getElem?_append_left hj]
theorem text (n : Int) (h0 : -9223372036854775808 <= n) (h1 : n <= 9223372036854775807) (w : World) (ht : Tab w) :
  Calls prog 154 #[.int .i64 n] w fun e w' => e = .returned (.string ⟨(Lib.itoa n).toArray⟩) /\ Below w.heap.size w w' := by
 have H := Tryz.strconv_Itoa n h0 h1 w ht
 clear ht
 go_enter func154, ntmps154
 go_wp2_with (first | (go_at_call 156; refine H.mono ?_; rintro e w' ⟨rfl, k, os, rfl⟩))
 go_ret
 exact ⟨rfl, below_grow _ _ _⟩
end Go.Proofs.YthjbknncbhkinaaGreatDoor.Digits
namespace Go.Proofs.YthjbknncbhkinaaGreatDoor.TextKey
open Go.RowKit Base Digits
def tx : C -> ByteArray
 | .mk k b i s _ _ => if k = 1 then ⟨#[]⟩ else if k = 2 then (if b = true then ⟨#[116, 114, 117, 101]⟩ else ⟨#[102, 97, 108, 115, 101]⟩) else if k = 3 then ⟨(Lib.itoa i).toArray⟩ else if k = 4 then s else ⟨#[]⟩
def te : C -> Int
 | .mk k _ _ _ _ _ => if k = 1 \/ k = 2 \/ k = 3 \/ k = 4 then 0 else 504
theorem text_c {m : Nat} {v : Value} {c : C} {w : World} (h : In false All w m v c) (ht : Tab w) :
  Calls prog 148 #[v] w fun e w' => e = .returned (.tuple #[.string (tx c), .int .i64 (te c)]) /\ Below w.heap.size w w' := by
 obtain ⟨m', nv, lv, -, rfl, -, hi, -, -, -⟩ := h.shape
 clear h
 obtain ⟨k, b, i, s, n, l⟩ := c
 simp only [C.k, C.b, C.i, C.s] at *
 have hb : Below w.heap.size w (w.alloc (.cells #[.int .i64 k, .bool b, .int .i64 i, .string s, nv, lv] 46)) := (Below.refl _ w).alloc (Nat.le_refl _) _
 have c46 := text i hi.1 hi.2 (w.alloc (.cells #[.int .i64 k, .bool b, .int .i64 i, .string s, nv, lv] 46)) (ht.later hb)
 by_cases h1 : k = 1
 ·subst h1
  go_enter func148, ntmps148
  go_wp2_with fail
  go_ret2
  exact ⟨rfl, hb⟩
 by_cases h2 : k = 2
 ·subst h2
  cases b
  ·go_enter func148, ntmps148
   go_wp2_with fail
   go_ret2
   exact ⟨rfl, hb⟩
  ·go_enter func148, ntmps148
   go_wp2_with fail
   go_ret2
   exact ⟨rfl, hb⟩
 by_cases h3 : k = 3
 ·subst h3
  go_enter func148, ntmps148
  go_wp2_with (first | (go_at_call 154; refine c46.mono ?_; rintro e w1 ⟨rfl, b1⟩))
  go_ret2
  exact ⟨rfl, nx hb b1⟩
 by_cases h4 : k = 4
 ·subst h4
  go_enter func148, ntmps148
  go_wp2_with fail
  go_ret2
  exact ⟨rfl, hb⟩
 have e1 : tx (.mk k b i s n l) = ⟨#[]⟩ := by simp [tx, h1, h2, h3, h4]
 have e2 : te (.mk k b i s n l) = 504 := by simp [te, h1, h2, h3, h4]
 rw [e1, e2]
 have h1' : (k == 1) = false := by simp [h1]
 have h2' : (k == 2) = false := by simp [h2]
 have h3' : (k == 3) = false := by simp [h3]
 have h4' : (k == 4) = false := by simp [h4]
 go_enter func148, ntmps148
 go_wp2_with fail
 go_ret2
 exact ⟨rfl, hb⟩
end Go.Proofs.YthjbknncbhkinaaGreatDoor.TextKey
namespace Go.Proofs.YthjbknncbhkinaaGreatDoor.WhA
open Go.ChangeShapes Go.WideShapes Go.ChangeAt Go.RowKit Sums
theorem wsize (a : Int) (h0 : -9223372036854775808 <= a) (h1 : a <= 9223372036854775807) (w : World) :
  Calls prog 136 #[.int .i64 a] w fun e w' => e = .returned (.int .u64 (a.natAbs : Int)) /\ w' = w := by
 by_cases c : a < 0
 ·go_enter func136, ntmps136
  go_wp2
  go_ret
  exact ⟨ret1 (by simp only [IntKind.wrap_u64]; omega), rfl⟩
 ·go_enter func136, ntmps136
  go_wp2
  go_ret
  exact ⟨ret1 (by omega), rfl⟩
theorem withSign (m : Int) (below : Bool) (h0 : 0 <= m) (h1 : m <= 18446744073709551615) (w : World) :
  Calls prog 137 #[.int .u64 m, .bool below] w fun e w' => e = .returned (.tuple #[.int .i64 (num (sg below m)), .int .i64 (err (sg below m))]) /\ w' = w := by
 cases below
 ·by_cases c : m <= 9223372036854775807
  ·go_enter func137, ntmps137
   go_wp2
   go_ret2
   rw [sg_false, num_in (by omega) (by omega), err_in (by omega) (by omega)]
   exact ⟨rfl, rfl⟩
  ·go_enter func137, ntmps137
   go_wp2
   go_ret2
   rw [sg_false, num_out (by omega), err_out (by omega)]
   exact ⟨rfl, rfl⟩
 ·by_cases c : m <= 9223372036854775808
  ·go_enter func137, ntmps137
   go_wp2
   go_ret2
   rw [sg_true, num_in (by omega) (by omega), err_in (by omega) (by omega)]
   exact ⟨ret2 (by simp only [IntKind.wrap_u64]; unfold wrap64; omega) rfl, rfl⟩
  ·go_enter func137, ntmps137
   go_wp2
   go_ret2
   rw [sg_true, num_out (by omega), err_out (by omega)]
   exact ⟨rfl, rfl⟩
theorem add (a b : Int) (a0 : -9223372036854775808 <= a) (a1 : a <= 9223372036854775807) (b0 : -9223372036854775808 <= b) (b1 : b <= 9223372036854775807) (w : World) :
  Calls prog 108 #[.int .i64 a, .int .i64 b] w fun e w' => e = .returned (.tuple #[.int .i64 (num (a + b)), .int .i64 (err (a + b))]) /\ w' = w := by
 have t := add_test a0 a1 b0 b1
 by_cases c : bits .and .i64 (bits .xor .i64 a (wrap64 (a + b))) (bits .xor .i64 b (wrap64 (a + b))) < 0
 ·have c' := t.mp c
  rw [num_out c', err_out c']
  clear t c' a0 a1 b0 b1
  go_enter func108, ntmps108
  go_wp2
  go_ret2
  exact ⟨rfl, rfl⟩
 ·have c' := fun h => c (t.mpr h)
  have e := wrap64_in' c'
  rw [num_in (by omega) (by omega), err_in (by omega) (by omega), <- e]
  clear t c' a0 a1 b0 b1 e
  go_enter func108, ntmps108
  go_wp2
  go_ret2
  exact ⟨rfl, rfl⟩
theorem sub (a b : Int) (a0 : -9223372036854775808 <= a) (a1 : a <= 9223372036854775807) (b0 : -9223372036854775808 <= b) (b1 : b <= 9223372036854775807) (w : World) :
  Calls prog 106 #[.int .i64 a, .int .i64 b] w fun e w' => e = .returned (.tuple #[.int .i64 (num (a - b)), .int .i64 (err (a - b))]) /\ w' = w := by
 have t := sub_test a0 a1 b0 b1
 by_cases c : bits .and .i64 (bits .xor .i64 a b) (bits .xor .i64 a (wrap64 (a - b))) < 0
 ·have c' := t.mp c
  rw [num_out c', err_out c']
  clear t c' a0 a1 b0 b1
  go_enter func106, ntmps106
  go_wp2
  go_ret2
  exact ⟨rfl, rfl⟩
 ·have c' := fun h => c (t.mpr h)
  have e := wrap64_in' c'
  rw [num_in (by omega) (by omega), err_in (by omega) (by omega), <- e]
  clear t c' a0 a1 b0 b1 e
  go_enter func106, ntmps106
  go_wp2
  go_ret2
  exact ⟨rfl, rfl⟩
theorem isShift (k : Int) (w : World) :
  Calls prog 138 #[.int .i64 k] w fun r w' => r = .returned (.bool (decide (0 <= k) && decide (k <= 63))) /\ w' = w := by
 by_cases c : 0 <= k
 ·by_cases d : k <= 63
  ·go_enter func138, ntmps138
   go_wp2
   go_ret
   simp [c, d]
  ·go_enter func138, ntmps138
   go_wp2
   go_ret
   simp [d]
 ·go_enter func138, ntmps138
  go_wp2
  go_ret
  simp
  omega
theorem mul_zero (a b lo : Int) (sa sb : Bool) (a0 : -9223372036854775808 <= a) (a1 : a <= 9223372036854775807) (b0 : -9223372036854775808 <= b) (b1 : b <= 9223372036854775807)
  (l0 : 0 <= lo) (l1 : lo <= 18446744073709551615) (da : decide (a < 0) = sa) (db : decide (b < 0) = sb)
  (H : ∀ w, Calls prog 135 #[.int .u64 (a.natAbs : Int), .int .u64 (b.natAbs : Int)] w fun e w' => e = .returned (.tuple #[.int .u64 0, .int .u64 lo]) /\ w' = w) (w : World) :
  Calls prog 109 #[.int .i64 a, .int .i64 b] w fun e w' => e = .returned (.tuple #[.int .i64 (num (sg (sa != sb) lo)), .int .i64 (err (sg (sa != sb) lo))]) /\ w' = w := by
 go_enter func109, ntmps109
 go_wp2_with (first | (go_at_call 136; refine (wsize _ (by omega) (by omega) _).mono ?_; rintro e w' ⟨rfl, rfl⟩) | (go_at_call 135; refine (H _).mono ?_; rintro e w' ⟨rfl, rfl⟩) | (go_at_call 137; refine (withSign _ _ (by omega) (by omega) _).mono ?_; rintro e w' ⟨rfl, rfl⟩))
 go_ret2
 exact ⟨rfl, rfl⟩
theorem mul_pos (a b hi lo : Int) (a0 : -9223372036854775808 <= a) (a1 : a <= 9223372036854775807) (b0 : -9223372036854775808 <= b) (b1 : b <= 9223372036854775807)
  (h0 : 0 < hi)
  (H : ∀ w, Calls prog 135 #[.int .u64 (a.natAbs : Int), .int .u64 (b.natAbs : Int)] w fun e w' => e = .returned (.tuple #[.int .u64 hi, .int .u64 lo]) /\ w' = w) (w : World) :
  Calls prog 109 #[.int .i64 a, .int .i64 b] w fun e w' => e = .returned (.tuple #[.int .i64 0, .int .i64 100]) /\ w' = w := by
 go_enter func109, ntmps109
 go_wp2_with (first | (go_at_call 136; refine (wsize _ (by omega) (by omega) _).mono ?_; rintro e w' ⟨rfl, rfl⟩) | (go_at_call 135; refine (H _).mono ?_; rintro e w' ⟨rfl, rfl⟩))
 go_ret2
 exact ⟨rfl, rfl⟩
theorem prod_sign (a b : Int) : sg (decide (a < 0) != decide (b < 0)) ((a.natAbs * b.natAbs : Nat) : Int) = a * b := by
 have e : ((a.natAbs * b.natAbs : Nat) : Int) = (a.natAbs : Int) * (b.natAbs : Int) := by simp
 rw [e]
 rcases Int.natAbs_eq a with ha | ha <;> rcases Int.natAbs_eq b with hb | hb
 all_goals
  generalize hx : a.natAbs = x at *
  generalize hy : b.natAbs = y at *
  subst ha hb
  have px : 0 <= (x : Int) := Int.natCast_nonneg x
  have py : 0 <= (y : Int) := Int.natCast_nonneg y
  by_cases cx : (x : Int) = 0
  ·simp [cx, sg]
  ·by_cases cy : (y : Int) = 0
   ·simp [cy, sg]
   ·have d1 : decide (-(x : Int) < 0) = true := decide_eq_true (by omega)
    have d2 : decide ((x : Int) < 0) = false := decide_eq_false (by omega)
    have d3 : decide (-(y : Int) < 0) = true := decide_eq_true (by omega)
    have d4 : decide ((y : Int) < 0) = false := decide_eq_false (by omega)
    simp only [d1, d2, d3, d4, sg]
    grind
theorem mul (a b : Int) (a0 : -9223372036854775808 <= a) (a1 : a <= 9223372036854775807) (b0 : -9223372036854775808 <= b) (b1 : b <= 9223372036854775807) (w : World) :
  Calls prog 109 #[.int .i64 a, .int .i64 b] w fun e w' => e = .returned (.tuple #[.int .i64 (num (a * b)), .int .i64 (err (a * b))]) /\ w' = w := by
 have H := Tryz.bits_Mul64 a.natAbs b.natAbs (by omega) (by omega)
 have e := prod_sign a b
 by_cases c : a.natAbs * b.natAbs < 18446744073709551616
 ·rw [Nat.div_eq_of_lt c, Nat.mod_eq_of_lt c] at H
  rw [<- e]
  exact mul_zero a b _ _ _ a0 a1 b0 b1 (by omega) (by omega) rfl rfl H w
 ·have hout : a * b < -9223372036854775808 \/ 9223372036854775807 < a * b := by
   rw [<- e]
   generalize (decide (a < 0) != decide (b < 0)) = s
   cases s
   ·rw [sg_false]; omega
   ·rw [sg_true]; omega
  rw [num_out hout, err_out hout]
  refine mul_pos a b _ _ a0 a1 b0 b1 ?_ H w
  have := Nat.div_pos (Nat.le_of_not_lt c) (by omega)
  omega
/-! ### Plain numbers -/
theorem quot_sign (a b : Int) : sg (decide (a < 0) != decide (b < 0)) ((a.natAbs : Int) / (b.natAbs : Int)) = a.tdiv b := by
 rcases Int.natAbs_eq a with ha | ha <;> rcases Int.natAbs_eq b with hb | hb
 all_goals
  generalize hx : a.natAbs = x at *
  generalize hy : b.natAbs = y at *
  subst ha hb
  have px : 0 <= (x : Int) := Int.natCast_nonneg x
  have py : 0 <= (y : Int) := Int.natCast_nonneg y
  have e := Int.tdiv_eq_ediv_of_nonneg (b := (y : Int)) px
  by_cases cx : (x : Int) = 0
  ·simp [cx, sg]
  ·by_cases cy : (y : Int) = 0
   ·simp [cy, sg]
   ·have d1 : decide (-(x : Int) < 0) = true := decide_eq_true (by omega)
    have d2 : decide ((x : Int) < 0) = false := decide_eq_false (by omega)
    have d3 : decide (-(y : Int) < 0) = true := decide_eq_true (by omega)
    have d4 : decide ((y : Int) < 0) = false := decide_eq_false (by omega)
    simp only [d1, d2, d3, d4, sg, Int.neg_tdiv, Int.tdiv_neg, e]
    simp
theorem rem_sign (a b : Int) : sg (decide (a < 0)) ((a.natAbs : Int) % (b.natAbs : Int)) = a.tmod b := by
 rcases Int.natAbs_eq a with ha | ha <;> rcases Int.natAbs_eq b with hb | hb
 all_goals
  generalize hx : a.natAbs = x at *
  generalize hy : b.natAbs = y at *
  subst ha hb
  have px : 0 <= (x : Int) := Int.natCast_nonneg x
  have e := Int.tmod_eq_emod_of_nonneg (b := (y : Int)) px
  by_cases cx : (x : Int) = 0
  ·simp [cx, sg]
  ·have d1 : decide (-(x : Int) < 0) = true := decide_eq_true (by omega)
   have d2 : decide ((x : Int) < 0) = false := decide_eq_false (by omega)
   simp only [d1, d2, sg, Int.neg_tmod, Int.tmod_neg, e]
   simp
theorem tdiv_range {a b : Int} (a0 : -9223372036854775808 <= a) (a1 : a <= 9223372036854775807) (cb : b ≠ 0) (cm : ¬ (a = -9223372036854775808 /\ b = -1)) :
  -9223372036854775808 <= a.tdiv b /\ a.tdiv b <= 9223372036854775807 := by
 by_cases c1 : b = 1
 ·subst c1; simp; omega
 ·by_cases c2 : b = -1
  ·subst c2
   rw [Int.tdiv_neg, Int.tdiv_one]
   omega
  ·rw [<- quot_sign]
   have h : a.natAbs / b.natAbs <= a.natAbs / 2 := Nat.div_le_div_left (by omega) (by omega)
   have h' : (a.natAbs : Int) / (b.natAbs : Int) = ((a.natAbs / b.natAbs : Nat) : Int) := by simp
   rw [h']
   generalize a.natAbs / b.natAbs = q at *
   generalize (decide (a < 0) != decide (b < 0)) = s
   cases s
   ·rw [sg_false]; omega
   ·rw [sg_true]; omega
theorem tmod_range {a : Int} (b : Int) (a0 : -9223372036854775808 <= a) (a1 : a <= 9223372036854775807) :
  -9223372036854775808 <= a.tmod b /\ a.tmod b <= 9223372036854775807 := by
 rw [<- rem_sign]
 have h : a.natAbs % b.natAbs <= a.natAbs := Nat.mod_le _ _
 have h' : (a.natAbs : Int) % (b.natAbs : Int) = ((a.natAbs % b.natAbs : Nat) : Int) := by simp
 rw [h']
 by_cases c : a < 0
 ·rw [decide_eq_true c, sg_true]; omega
 ·rw [decide_eq_false c, sg_false]; omega
def dnum (a b : Int) : Int := if b = 0 then 0 else num (a.tdiv b)
def derr (a b : Int) : Int := if b = 0 then 101 else err (a.tdiv b)
def mnum (a b : Int) : Int := if b = 0 then 0 else a.tmod b
def merr (b : Int) : Int := if b = 0 then 101 else 0
/-! ### Div, Mod -/
theorem div_zero (a : Int) (w : World) :
  Calls prog 110 #[.int .i64 a, .int .i64 0] w fun e w' => e = .returned (.tuple #[.int .i64 0, .int .i64 101]) /\ w' = w := by
 go_enter func110, ntmps110
 go_wp2
 go_ret2
 exact ⟨rfl, rfl⟩
theorem div_over (w : World) :
  Calls prog 110 #[.int .i64 (-9223372036854775808), .int .i64 (-1)] w fun e w' => e = .returned (.tuple #[.int .i64 0, .int .i64 100]) /\ w' = w := by
 go_enter func110, ntmps110
 go_wp2
 go_ret2
 exact ⟨rfl, rfl⟩
theorem div_ok (a b : Int) (cb : b ≠ 0) (cm : ¬ (a = -9223372036854775808 /\ b = -1)) (w : World) :
  Calls prog 110 #[.int .i64 a, .int .i64 b] w fun e w' => e = .returned (.tuple #[.int .i64 (wrap64 (a.tdiv b)), .int .i64 0]) /\ w' = w := by
 by_cases c : a = -9223372036854775808
 ·have c2 : b ≠ -1 := fun h => cm ⟨c, h⟩
  clear cm
  subst c
  go_enter func110, ntmps110
  go_wp2
  go_ret2
  exact ⟨ret2 (by rw [Int.neg_tdiv]) rfl, rfl⟩
 ·clear cm
  go_enter func110, ntmps110
  go_wp2
  go_ret2
  exact ⟨rfl, rfl⟩
theorem div (a b : Int) (a0 : -9223372036854775808 <= a) (a1 : a <= 9223372036854775807) (w : World) :
  Calls prog 110 #[.int .i64 a, .int .i64 b] w fun e w' => e = .returned (.tuple #[.int .i64 (dnum a b), .int .i64 (derr a b)]) /\ w' = w := by
 unfold dnum derr
 by_cases cb : b = 0
 ·subst cb
  exact div_zero a w
 ·rw [if_neg cb, if_neg cb]
  by_cases cm : a = -9223372036854775808 /\ b = -1
  ·obtain ⟨rfl, rfl⟩ := cm
   have e : Int.tdiv (-9223372036854775808) (-1) = 9223372036854775808 := by decide
   rw [e, num_out (by omega), err_out (by omega)]
   exact div_over w
  ·have r := tdiv_range a0 a1 cb cm
   have h := div_ok a b cb cm w
   rw [wrap64_in' (by omega)] at h
   rw [num_in r.1 r.2, err_in r.1 r.2]
   exact h
theorem mod_zero (a : Int) (w : World) :
  Calls prog 111 #[.int .i64 a, .int .i64 0] w fun e w' => e = .returned (.tuple #[.int .i64 0, .int .i64 101]) /\ w' = w := by
 go_enter func111, ntmps111
 go_wp2
 go_ret2
 exact ⟨rfl, rfl⟩
theorem mod_ok (a b : Int) (cb : b ≠ 0) (w : World) :
  Calls prog 111 #[.int .i64 a, .int .i64 b] w fun e w' => e = .returned (.tuple #[.int .i64 (a.tmod b), .int .i64 0]) /\ w' = w := by
 go_enter func111, ntmps111
 go_wp2
 go_ret2
 exact ⟨rfl, rfl⟩
theorem mod (a b : Int) (w : World) :
  Calls prog 111 #[.int .i64 a, .int .i64 b] w fun e w' => e = .returned (.tuple #[.int .i64 (mnum a b), .int .i64 (merr b)]) /\ w' = w := by
 unfold mnum merr
 by_cases cb : b = 0
 ·subst cb
  exact mod_zero a w
 ·rw [if_neg cb, if_neg cb]
  exact mod_ok a b cb w
theorem shl_back (a : Int) (j : Nat) (hj : j <= 63) : wrap64 (a * 2 ^ j) / 2 ^ j = a ↔ (-9223372036854775808 <= a * 2 ^ j /\ a * 2 ^ j <= 9223372036854775807) := by
 have hm : (0 : Int) < 2 ^ j := Int.pow_pos (by omega)
 have hn : (2 : Int) ^ j * 2 ^ (64 - j) = 18446744073709551616 := by
  rw [<- Int.pow_add, show j + (64 - j) = 64 by omega]; rfl
 have hn0 : (0 : Int) < 2 ^ (64 - j) := Int.pow_pos (by omega)
 generalize (2 : Int) ^ j = m at *
 generalize (2 : Int) ^ (64 - j) = n at *
 obtain ⟨q, hq, hb⟩ : ∃ q : Int, wrap64 (a * m) = a * m - 18446744073709551616 * q /\ (q = 0 ↔ (-9223372036854775808 <= a * m /\ a * m <= 9223372036854775807)) :=
  ⟨(a * m + 9223372036854775808) / 18446744073709551616, by unfold wrap64; omega, by omega⟩
 rw [<- hb, hq, <- hn]
 have e : a * m - m * n * q = m * (a - n * q) := by grind
 rw [e, Int.mul_ediv_cancel_left _ (by omega)]
 constructor
 ·intro h
  have : n * q = 0 := by omega
  rcases Int.mul_eq_zero.mp this with h | h
  ·omega
  ·exact h
 ·intro h
  subst h
  omega
theorem shl_core (a k : Int) (k0 : 0 <= k) (k1 : k <= 63) (x e : Int) (hx : ((wrap64 (a * 2 ^ k.toNat) / 2 ^ k.toNat != a) = false /\ x = wrap64 (a * 2 ^ k.toNat) /\ e = 0) \/ ((wrap64 (a * 2 ^ k.toNat) / 2 ^ k.toNat != a) = true /\ x = 0 /\ e = 100)) (w : World) :
  Calls prog 112 #[.int .i64 a, .int .i64 k] w fun r w' => r = .returned (.tuple #[.int .i64 x, .int .i64 e]) /\ w' = w := by
 have dk : (decide (0 <= k) && decide (k <= 63)) = true := by simp; omega
 rcases hx with ⟨c, rfl, rfl⟩ | ⟨c, rfl, rfl⟩
 ·go_enter func112, ntmps112
  go_wp2_with (first | (go_at_call 138; refine (isShift _ _).mono ?_; rintro e w' ⟨rfl, rfl⟩))
  go_ret2
  exact ⟨rfl, rfl⟩
 ·go_enter func112, ntmps112
  go_wp2_with (first | (go_at_call 138; refine (isShift _ _).mono ?_; rintro e w' ⟨rfl, rfl⟩))
  go_ret2
  exact ⟨rfl, rfl⟩
theorem shl (a k : Int) (k0 : 0 <= k) (k1 : k <= 63) (w : World) :
  Calls prog 112 #[.int .i64 a, .int .i64 k] w fun e w' => e = .returned (.tuple #[.int .i64 (num (a * 2 ^ k.toNat)), .int .i64 (err (a * 2 ^ k.toNat))]) /\ w' = w := by
 refine shl_core a k k0 k1 _ _ ?_ w
 have t := shl_back a k.toNat (by omega)
 by_cases c : wrap64 (a * 2 ^ k.toNat) / 2 ^ k.toNat = a
 ·have r := t.mp c
  refine Or.inl ⟨by simp [c], ?_, err_in r.1 r.2⟩
  rw [num_in r.1 r.2, wrap64_in' (by omega)]
 ·have r : ¬ _ := fun h => c (t.mpr h)
  exact Or.inr ⟨by simp [c], num_out (by omega), err_out (by omega)⟩
theorem shr (a k : Int) (k0 : 0 <= k) (k1 : k <= 63) (w : World) :
  Calls prog 113 #[.int .i64 a, .int .i64 k] w fun e w' => e = .returned (.tuple #[.int .i64 (a / 2 ^ k.toNat), .int .i64 0]) /\ w' = w := by
 have dk : (decide (0 <= k) && decide (k <= 63)) = true := by simp; omega
 go_enter func113, ntmps113
 go_wp2_with (first | (go_at_call 138; refine (isShift _ _).mono ?_; rintro e w' ⟨rfl, rfl⟩))
 go_ret2
 exact ⟨rfl, rfl⟩
theorem shl_bad (a k : Int) (hk : k < 0 \/ 63 < k) (w : World) :
  Calls prog 112 #[.int .i64 a, .int .i64 k] w fun e w' => e = .returned (.tuple #[.int .i64 0, .int .i64 102]) /\ w' = w := by
 have dk : (decide (0 <= k) && decide (k <= 63)) = false := by simp; omega
 go_enter func112, ntmps112
 go_wp2_with (first | (go_at_call 138; refine (isShift _ _).mono ?_; rintro e w' ⟨rfl, rfl⟩))
 go_ret2
 exact ⟨rfl, rfl⟩
theorem shr_bad (a k : Int) (hk : k < 0 \/ 63 < k) (w : World) :
  Calls prog 113 #[.int .i64 a, .int .i64 k] w fun e w' => e = .returned (.tuple #[.int .i64 0, .int .i64 102]) /\ w' = w := by
 have dk : (decide (0 <= k) && decide (k <= 63)) = false := by simp; omega
 go_enter func113, ntmps113
 go_wp2_with (first | (go_at_call 138; refine (isShift _ _).mono ?_; rintro e w' ⟨rfl, rfl⟩))
 go_ret2
 exact ⟨rfl, rfl⟩
theorem div_range {a m : Int} (a0 : -9223372036854775808 <= a) (a1 : a <= 9223372036854775807) (hm : 0 < m) : -9223372036854775808 <= a / m /\ a / m <= 9223372036854775807 := by
 have hr0 := Int.emod_nonneg a (show m ≠ 0 by omega)
 have hr1 := Int.emod_lt_of_pos a hm
 have he := Int.mul_ediv_add_emod a m
 generalize a / m = q at *
 generalize a % m = r at *
 constructor
 ·apply Int.le_of_not_gt
  intro h
  have : m * q <= m * (-9223372036854775809) := Int.mul_le_mul_of_nonneg_left (by omega) (by omega)
  omega
 ·apply Int.le_of_not_gt
  intro h
  have : m * 9223372036854775808 <= m * q := Int.mul_le_mul_of_nonneg_left (by omega) (by omega)
  omega
end Go.Proofs.YthjbknncbhkinaaGreatDoor.WhA
namespace Go.Proofs.YthjbknncbhkinaaGreatDoor.VPure
open Go.RowKit Base EPure Sums
def nulC : C := .mk 1 false 0 ⟨#[]⟩ [] []
def booC (b : Bool) : C := .mk 2 b 0 ⟨#[]⟩ [] []
def intC (i : Int) : C := .mk 3 false i ⟨#[]⟩ [] []
def strC (s : ByteArray) : C := .mk 4 false 0 s [] []
def zerC : C := .mk 0 false 0 ⟨#[]⟩ [] []
abbrev Ans := Except Nat C
def bnd {α β : Type} (x : Except Nat α) (f : α -> Except Nat β) : Except Nat β := match x with
 | .error e => .error e
 | .ok a => f a
def isT (c : C) : Except Nat Bool := if c.k = 2 then .ok c.b else .error 1101
def chkI (x e0 : Int) : Except Nat Int := if e0 = 100 then .error 1102 else if e0 = 101 then .error 1103 else if e0 = 102 then .error 1104 else .ok x
def twI (k1 k2 x e0 : Int) : Except Nat Int := if k1 = 3 then (if k2 = 3 then chkI x e0 else .error 1101) else .error 1101
def mapI : Except Nat Int -> Ans
 | .error e => .error e
 | .ok x => .ok (intC x)
def wh (o x y : Int) : Int × Int :=
 if o = 12 then (num (x * y), err (x * y))
 else if o = 13 then (WhA.dnum x y, WhA.derr x y)
 else if o = 14 then (WhA.mnum x y, WhA.merr y)
 else if o = 15 then (num (x + y), err (x + y))
 else if o = 16 then (num (x - y), err (x - y))
 else if o = 18 then (if 0 <= y /\ y <= 63 then (num (x * 2 ^ y.toNat), err (x * 2 ^ y.toNat)) else (0, 102))
 else (if 0 <= y /\ y <= 63 then (x / 2 ^ y.toNat, 0) else (0, 102))
def numb (o : Int) (a b : C) : Ans := mapI (twI a.k b.k (wh o a.i b.i).1 (wh o a.i b.i).2)
def txt (c : C) : Except Nat ByteArray := if TextKey.te c = 0 then .ok (TextKey.tx c) else .error 1101
def cat (a b : C) : Ans := bnd (txt a) fun x => bnd (txt b) fun y => if 4096 < x.size + y.size then .error 1107 else .ok (strC (x ++ y))
def ord (k1 i1 : Int) (s1 : ByteArray) (k2 i2 : Int) (s2 : ByteArray) : Except Nat Int := if k1 = 4 /\ k2 = 4 then .ok (Lib.compareBytes s1.data.toList s2.data.toList) else if k1 = 3 then (if k2 = 3 then .ok (Lib.compareInt i1 i2) else .error 1101) else .error 1101
def ordL (a b : C) : Ans := bnd (ord a.k a.i a.s b.k b.i b.s) fun c => .ok (booC (decide (c < 0)))
def ordM (a b : C) : Ans := bnd (ord a.k a.i a.s b.k b.i b.s) fun c => .ok (booC (decide (c <= 0)))
def bit (o x y : Int) : Int := if o = 20 then Go.bits .and .i64 x y else if o = 21 then Go.bits .xor .i64 x y else Go.bits .or .i64 x y
def twX (k1 k2 x : Int) : Except Nat Int := if k1 = 3 then (if k2 = 3 then .ok x else .error 1101) else .error 1101
def tun (n x : Int) : Int := if n = 3 then (x + 128) % 256 - 128 else if n = 4 then x % 256 else if n = 5 then (x + 32768) % 65536 - 32768 else if n = 6 then x % 65536 else if n = 7 then (x + 2147483648) % 4294967296 - 2147483648 else x % 4294967296
def prtR (k1 : Int) (n : List ByteArray) (l : List C) (k2 i2 : Int) (s2 : ByteArray) : Ans := if k1 = 5 then (if k2 = 3 then (if i2 < 0 \/ (l.length : Int) <= i2 then .error 1106 else .ok (l.getD i2.toNat zerC)) else .error 1101)
 else if k1 = 6 /\ k2 = 4 then (match Part.fi n s2 with
  | none => .error 1105
  | some q => .ok (l.getD q zerC)) else .error 1101
def prt (a b : C) : Ans := prtR a.k a.n a.l b.k b.i b.s
def mapS : Except Nat ByteArray -> Ans
 | .error e => .error e
 | .ok x => .ok (strC x)
def lenI (k : Int) (s : ByteArray) (n : Nat) : Except Nat Int := if k = 4 then .ok (s.size : Int) else if k = 5 \/ k = 6 then .ok (n : Int) else .error 1101
def tunI (n k i : Int) : Except Nat Int := if k = 3 then .ok (tun n i) else .error 1101
def cal (a : C) (n : Int) : Ans := if n = 1 then mapI (lenI a.k a.s a.l.length) else if n = 2 then mapS (txt a) else mapI (tunI n a.k a.i)
def notT (k : Int) (b : Bool) : Except Nat Bool := if k = 2 then .ok (!b) else .error 1101
def mapB : Except Nat Bool -> Ans
 | .error e => .error e
 | .ok x => .ok (booC x)
def pr2 (o : Int) (a b : C) : Ans := if o = 17 then cat a b else if o = 10 then numb 16 (intC 0) a else if o = 23 then ordL a b else if o = 24 then ordM a b else if o = 25 then ordL b a else if o = 26 then ordM b a else if o = 27 then .ok (booC (Eq.same a b)) else if o = 28 then .ok (booC (!(Eq.same a b))) else if o = 7 \/ o = 8 then prt a b else if o = 9 then cal a b.i else if o = 11 then mapB (notT a.k a.b) else if o = 20 \/ o = 21 \/ o = 22 then mapI (twX a.k b.k (bit o a.i b.i)) else numb o a b
def snd2 (o i : Int) (s : ByteArray) (p : List Ans) : Ans := if o = 7 then .ok (strC s) else if o = 9 then .ok (intC i) else if o = 10 \/ o = 11 then .ok zerC else p.getD 1 (.error 0)
def node (ρ : ByteArray -> Option C) (o i : Int) (s : ByteArray) (p : List Ans) : Ans :=
 if o = 1 then .ok nulC
 else if o = 2 \/ o = 3 then .ok (booC (decide (o = 3)))
 else if o = 4 then .ok (intC i)
 else if o = 5 then .ok (strC s)
 else if o = 6 then (match ρ s with
  | none => .error 1100
  | some c => .ok c)
 else if o = 29 \/ o = 30 then bnd (bnd (p.getD 0 (.error 0)) isT) fun b => if b = decide (o = 30) then .ok (booC (decide (o = 30))) else bnd (bnd (p.getD 1 (.error 0)) isT) fun c => .ok (booC c)
 else if o = 31 then bnd (bnd (p.getD 0 (.error 0)) isT) fun b => if b = true then p.getD 1 (.error 0) else p.getD 2 (.error 0)
 else bnd (p.getD 0 (.error 0)) fun a => bnd (snd2 o i s p) fun b => pr2 o a b
def evL (ρ : ByteArray -> Option C) : List Ex -> List Ans
 | [] => []
 | .mk o i s l :: t => node ρ o i s (evL ρ l) :: evL ρ t
def wfL : List C -> Prop
 | [] => True
 | .mk k b i s n l :: t => ((k = 6 -> n.length <= l.length) /\ wfL l) /\ wfL t
def wf (c : C) : Prop := (c.k = 6 -> c.n.length <= c.l.length) /\ wfL c.l
theorem wfL_cons {c : C} {t : List C} : wfL (c :: t) ↔ wf c /\ wfL t := by
 obtain ⟨k, b, i, s, n, l⟩ := c
 rw [wfL]
 exact Iff.rfl
theorem wfL_get : ∀ {l : List C}, wfL l -> ∀ q, wf (l.getD q zerC)
 | [], _, q => by rw [List.getD_nil]; exact ⟨fun h => by simp [zerC, C.k] at h, by rw [show zerC.l = [] from rfl, wfL]; trivial⟩
 | c :: t, h, 0 => by simpa using (wfL_cons.1 h).1
 | c :: t, h, q + 1 => by simpa using wfL_get (wfL_cons.1 h).2 q
theorem wf_one {k i : Int} {b : Bool} {s : ByteArray} (h : k ≠ 6) : wf (.mk k b i s [] []) := ⟨fun e => (h e).elim, by show wfL []; rw [wfL]; trivial⟩
theorem mapI_wf {x : Except Nat Int} {c : C} (h : mapI x = .ok c) : wf c := by
 cases x with
 | error e => cases h
 | ok y => injection h with h; rw [<- h]; exact wf_one (by decide)
theorem pr2_wf {o : Int} {a b c : C} (ha : wf a) (h : pr2 o a b = .ok c) : wf c := by
 have hb : ∀ {B : Bool}, (Except.ok (booC B) : Ans) = .ok c -> wf c := fun h => by injection h with h; rw [<- h]; exact wf_one (by decide)
 have hoL : ∀ {x : Except Nat Int} {f : Int -> Bool}, (bnd x fun c => .ok (booC (f c))) = (.ok c : Ans) -> wf c := fun {x f} h => by
  cases x with
  | error e => cases h
  | ok y => exact hb h
 unfold pr2 at h
 by_cases q : o = 17
 ·rw [if_pos q] at h
  unfold cat at h
  revert h
  generalize txt a = x
  generalize txt b = y
  intro h
  cases x with
  | error e => cases h
  | ok x =>
   cases y with
   | error e => cases h
   | ok y =>
    simp only [bnd] at h
    by_cases q : 4096 < x.size + y.size
    ·rw [if_pos q] at h; cases h
    ·rw [if_neg q] at h; injection h with h; rw [<- h]; exact wf_one (by decide)
 rw [if_neg q] at h
 clear q
 by_cases q : o = 10
 ·rw [if_pos q] at h
  exact mapI_wf h
 rw [if_neg q] at h
 clear q
 by_cases q : o = 23
 ·rw [if_pos q] at h
  exact hoL h
 rw [if_neg q] at h
 clear q
 by_cases q : o = 24
 ·rw [if_pos q] at h
  exact hoL h
 rw [if_neg q] at h
 clear q
 by_cases q : o = 25
 ·rw [if_pos q] at h
  exact hoL h
 rw [if_neg q] at h
 clear q
 by_cases q : o = 26
 ·rw [if_pos q] at h
  exact hoL h
 rw [if_neg q] at h
 clear q
 by_cases q : o = 27
 ·rw [if_pos q] at h
  exact hb h
 rw [if_neg q] at h
 clear q
 by_cases q : o = 28
 ·rw [if_pos q] at h
  exact hb h
 rw [if_neg q] at h
 clear q
 by_cases q : o = 7 \/ o = 8
 ·rw [if_pos q] at h
  unfold prt prtR at h
  by_cases q5 : a.k = 5
  ·rw [if_pos q5] at h
   by_cases q3 : b.k = 3
   ·rw [if_pos q3] at h
    by_cases qi : b.i < 0 \/ (a.l.length : Int) <= b.i
    ·rw [if_pos qi] at h; cases h
    ·rw [if_neg qi] at h; injection h with h; rw [<- h]; exact wfL_get ha.2 _
   ·rw [if_neg q3] at h; cases h
  ·rw [if_neg q5] at h
   by_cases q6 : a.k = 6 /\ b.k = 4
   ·rw [if_pos q6] at h
    cases hf : Part.fi a.n b.s with
    | none => rw [hf] at h; cases h
    | some q => rw [hf] at h; injection h with h; rw [<- h]; exact wfL_get ha.2 _
   ·rw [if_neg q6] at h; cases h
 rw [if_neg q] at h
 clear q
 by_cases q : o = 9
 ·rw [if_pos q] at h
  unfold cal at h
  by_cases q1 : b.i = 1
  ·rw [if_pos q1] at h; exact mapI_wf h
  rw [if_neg q1] at h
  by_cases q2 : b.i = 2
  ·rw [if_pos q2] at h
   revert h
   generalize txt a = x
   intro h
   cases x with
   | error e => cases h
   | ok x => injection h with h; rw [<- h]; exact wf_one (by decide)
  ·rw [if_neg q2] at h; exact mapI_wf h
 rw [if_neg q] at h
 clear q
 by_cases q : o = 11
 ·rw [if_pos q] at h
  unfold notT at h
  by_cases q2 : a.k = 2
  ·rw [if_pos q2] at h; exact hb h
  ·rw [if_neg q2] at h; cases h
 rw [if_neg q] at h
 clear q
 by_cases q : o = 20 \/ o = 21 \/ o = 22
 ·rw [if_pos q] at h
  exact mapI_wf h
 rw [if_neg q] at h
 clear q
 exact mapI_wf h
theorem node_wf {ρ : ByteArray -> Option C} (hρ : ∀ s c, ρ s = some c -> wf c) {o i : Int} {s : ByteArray} {p : List Ans} (hp : ∀ q c, p.getD q (.error 0) = .ok c -> wf c) {c : C} (h : node ρ o i s p = .ok c) : wf c := by
 have hb : ∀ {k i : Int} {b : Bool} {s : ByteArray}, k ≠ 6 -> (Except.ok (.mk k b i s [] []) : Ans) = .ok c -> wf c := fun hk h => by injection h with h; rw [<- h]; exact wf_one hk
 unfold node at h
 by_cases q : o = 1
 ·rw [if_pos q] at h
  exact hb (by decide) h
 rw [if_neg q] at h
 clear q
 by_cases q : o = 2 \/ o = 3
 ·rw [if_pos q] at h
  exact hb (by decide) h
 rw [if_neg q] at h
 clear q
 by_cases q : o = 4
 ·rw [if_pos q] at h
  exact hb (by decide) h
 rw [if_neg q] at h
 clear q
 by_cases q : o = 5
 ·rw [if_pos q] at h
  exact hb (by decide) h
 rw [if_neg q] at h
 clear q
 by_cases q : o = 6
 ·rw [if_pos q] at h
  cases e : ρ s with
  | none => rw [e] at h; cases h
  | some c' => rw [e] at h; injection h with h; rw [<- h]; exact hρ _ _ e
 rw [if_neg q] at h
 clear q
 by_cases q : o = 29 \/ o = 30
 ·rw [if_pos q] at h
  revert h
  generalize bnd (p.getD 0 (.error 0)) isT = x
  generalize bnd (p.getD 1 (.error 0)) isT = y
  intro h
  cases x with
  | error e => cases h
  | ok b =>
   simp only [bnd] at h
   by_cases q : b = decide (o = 30)
   ·rw [if_pos q] at h; exact hb (by decide) h
   ·rw [if_neg q] at h
    cases y with
    | error e => cases h
    | ok b => exact hb (by decide) h
 rw [if_neg q] at h
 clear q
 by_cases q : o = 31
 ·rw [if_pos q] at h
  revert h
  generalize bnd (p.getD 0 (.error 0)) isT = x
  intro h
  cases x with
  | error e => cases h
  | ok b =>
   simp only [bnd] at h
   by_cases q : b = true
   ·rw [if_pos q] at h; exact hp _ _ h
   ·rw [if_neg q] at h; exact hp _ _ h
 rw [if_neg q] at h
 clear q
 cases hx : p.getD 0 (.error 0) with
 | error e => rw [hx] at h; cases h
 | ok a =>
  rw [hx] at h
  have ha := hp _ _ hx
  simp only [bnd] at h
  revert h
  generalize snd2 o i s p = y
  intro h
  cases y with
  | error e => cases h
  | ok b => exact pr2_wf ha h
def opsL (P : Int -> Prop) : List Ex -> Prop
 | [] => True
 | .mk o i s l :: t => (P o /\ opsL P l) /\ opsL P t
theorem opsL_cons {P : Int -> Prop} {x : Ex} {t : List Ex} : opsL P (x :: t) ↔ (P x.o /\ opsL P x.l) /\ opsL P t := by
 obtain ⟨o, i, s, l⟩ := x
 rw [opsL]
 exact Iff.rfl
def ops (P : Int -> Prop) (x : Ex) : Prop := P x.o /\ opsL P x.l
theorem opsL_get {P : Int -> Prop} : ∀ {l : List Ex}, opsL P l -> ∀ {j : Nat} (h : j < l.length), ops P l[j]
 | [], _, _, h => absurd h (by simp)
 | x :: t, hg, 0, _ => (opsL_cons.1 hg).1
 | x :: t, hg, j + 1, h => opsL_get (opsL_cons.1 hg).2 (j := j) (by simpa using h)
end Go.Proofs.YthjbknncbhkinaaGreatDoor.VPure

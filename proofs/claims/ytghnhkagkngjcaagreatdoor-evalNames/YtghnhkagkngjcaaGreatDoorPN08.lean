import Derived.OpenShut
import Derived.ProofKit
import Derived.Test.YtghnhkagkngjcaaGreatDoorProg
import Derived.WalkKit
import Derived.WalkLawsBesides
import Derived.WalkSpells
import Derived.Test.YtghnhkagkngjcaaGreatDoorPN03
set_option linter.unusedVariables false
namespace Go.Proofs.YtghnhkagkngjcaaGreatDoor.Reads
open Go.ChangeShapes Go.WideShapes Go.ChangeAt Go.RowKit Sums Nums
theorem withSign (m : Int) (below : Bool) (h0 : 0 ≤ m) (h1 : m ≤ 18446744073709551615) (w : World) :
  Calls Tryz.prog 144 #[.int .u64 m, .bool below] w fun e w' => e = .returned (.tuple #[.int .i64 (num (sg below m)), .int .i64 (err (sg below m))]) ∧ w' = w := by
 cases below
 ·by_cases c : m ≤ 9223372036854775807
  ·go_enter Tryz.func144, Tryz.ntmps144
   go_wp2
   go_ret2
   rw [sg_false, num_in (by omega) (by omega), err_in (by omega) (by omega)]
   exact ⟨rfl, rfl⟩
  ·go_enter Tryz.func144, Tryz.ntmps144
   go_wp2
   go_ret2
   rw [sg_false, num_out (by omega), err_out (by omega)]
   exact ⟨rfl, rfl⟩
 ·by_cases c : m ≤ 9223372036854775808
  ·go_enter Tryz.func144, Tryz.ntmps144
   go_wp2
   go_ret2
   rw [sg_true, num_in (by omega) (by omega), err_in (by omega) (by omega)]
   exact ⟨ret2 (by simp only [IntKind.wrap_u64]; unfold wrap64; omega) rfl, rfl⟩
  ·go_enter Tryz.func144, Tryz.ntmps144
   go_wp2
   go_ret2
   rw [sg_true, num_out (by omega), err_out (by omega)]
   exact ⟨rfl, rfl⟩
theorem isPos_empty (w : World) :
  Calls Tryz.prog 155 #[.string ByteArray.empty] w fun e w' => e = .returned (.bool false) ∧ w' = w := by
 go_enter Tryz.func155, Tryz.ntmps155
 go_wp2
 go_ret
 exact ⟨rfl, rfl⟩
theorem isPos_zero (s : ByteArray) (hs : s.size ≤ 9223372036854775807) (h0 : 0 < s.size) (hz : ((s[0].toNat : Int) == 48) = true) (w : World) :
  Calls Tryz.prog 155 #[.string s] w fun e w' => e = .returned (.bool false) ∧ w' = w := by
 have he : ¬ s = ByteArray.empty := fun h => by subst h; simp at h0
 have he2 : ((s.size : Int) == 0) = false := by simp; exact he
 go_enter Tryz.func155, Tryz.ntmps155
 go_wp2
 go_ret
 exact ⟨rfl, rfl⟩
theorem isPos_loop (s : ByteArray) (hs : s.size ≤ 9223372036854775807) (h0 : 0 < s.size) (hz : ((s[0].toNat : Int) == 48) = false) (w : World) :
  Calls Tryz.prog 155 #[.string s] w fun e w' => e = .returned (.bool (posForm (bs s))) ∧ w' = w := by
 have he : ¬ s = ByteArray.empty := fun h => by subst h; simp at h0
 have he2 : ((s.size : Int) == 0) = false := by simp; exact he
 go_enter Tryz.func155, Tryz.ntmps155
 go_wp2
 go_loop [14] (fun i => ∃ n : Nat, n ≤ s.size ∧ i = .int .i64 n ∧ ∀ j (hj : j < s.size), j < n → isDig s[j] = true) (fun i => s.size - (intOf i).toNat)
 case atStart => exact ⟨0, by omega, rfl, fun j _ h => by omega⟩
 case round =>
  obtain ⟨n, hn, rfl, hd⟩ := hrel
  have HD : Hid (∀ j (hj : j < s.size), j < n → isDig s[j] = true) := hd
  clear hd
  go_wp2
  ·have hlt : n < s.size := by assumption
   have hq : (s[n].toNat : Int) < 48 ∨ 57 < (s[n].toNat : Int) := by assumption
   go_ret
   have e : posForm (bs s) = false := posForm_not (j := n) (by rw [bs_length]; exact hlt) (by rw [← bs_get s n hlt]; simp only [isDig]; simp; omega)
   rw [e]
   exact ⟨rfl, rfl⟩
  ·have hlt : n < s.size := by assumption
   have hq : 48 ≤ (s[n].toNat : Int) ∧ (s[n].toNat : Int) ≤ 57 := by assumption
   go_round
   case rel =>
    refine ⟨n + 1, by omega, by go_num, fun j hj h => ?_⟩
    by_cases c : j < n
    ·exact HD.out j hj c
    ·obtain rfl : j = n := by omega
     simp only [isDig]; simp; omega
   case measure => simp only [intOf]; omega
  ·have hlt : n < s.size := by assumption
   have hq : (s[n].toNat : Int) < 48 := by assumption
   go_ret
   have e : posForm (bs s) = false := posForm_not (j := n) (by rw [bs_length]; exact hlt) (by rw [← bs_get s n hlt]; simp only [isDig]; simp; omega)
   rw [e]
   exact ⟨rfl, rfl⟩
  ·have hge : ¬ n < s.size := by assumption
   go_ret
   have e : posForm (bs s) = true := by
    refine posForm_of (by rw [bs_length]; exact h0) (by rw [← bs_get s 0 h0]; simp at hz; omega) (fun j hj => ?_)
    rw [bs_length] at hj
    rw [← bs_get s j hj]
    exact HD.out j hj (by omega)
   rw [e]
   exact ⟨rfl, rfl⟩
theorem isPos (s : ByteArray) (hs : s.size ≤ 9223372036854775807) (w : World) :
  Calls Tryz.prog 155 #[.string s] w fun e w' => e = .returned (.bool (posForm (bs s))) ∧ w' = w := by
 by_cases h0 : 0 < s.size
 ·by_cases hz : s[0].toNat = 48
  ·rw [posForm_zero (by rw [bs_length]; exact h0) (by rw [← bs_get s 0 h0]; exact hz)]
   exact isPos_zero s hs h0 (by simp [hz]) w
  ·exact isPos_loop s hs h0 (by simp; omega) w
 ·obtain rfl : s = ByteArray.empty := by
   apply ByteArray.ext
   apply Array.eq_empty_of_size_eq_zero
   exact Nat.eq_zero_of_not_pos h0
  exact isPos_empty w
theorem val_room (l : List UInt8) (hp : l.all isDig = true) (hl : l.length ≤ 19) (n : Nat) (hn : n < l.length) :
  ((val (l.take n) : Nat) : Int) * 10 + 9 ≤ 18446744073709551615 ∧ 48 ≤ l[n].toNat ∧ l[n].toNat ≤ 57 := by
 have h1 : (l.take n).all isDig = true := List.all_eq_true.mpr fun x hx => List.all_eq_true.mp hp x (List.mem_of_mem_take hx)
 have h2 := val_lt _ h1
 have h3 : (l.take n).length ≤ 18 := by rw [List.length_take]; omega
 have h4 := Nat.pow_le_pow_right (show 0 < 10 by omega) h3
 have h5 := isDig_le (List.all_eq_true.mp hp _ (List.getElem_mem hn))
 exact ⟨by omega, h5⟩
theorem val_room_all (l : List UInt8) (hp : l.all isDig = true) (hl : l.length ≤ 19) : ((val l : Nat) : Int) ≤ 18446744073709551615 := by
 have h2 := val_lt _ hp
 have h4 := Nat.pow_le_pow_right (show 0 < 10 by omega) hl
 omega
theorem parse_bad (s : ByteArray) (hs : s.size ≤ 9223372036854775807) (hn : ¬ s.toList = [48]) (hn2 : (s.toList == [48]) = false) (h0 : 0 < s.size) (hb : ((s[0].toNat : Int) == 45) = false) (hp : posForm (bs s) = false) (w : World) :
  Calls Tryz.prog 129 #[.string s] w fun e w' => e = .returned (.tuple #[.int .i64 0, .int .i64 104]) ∧ w' = w := by
 go_enter Tryz.func129, Tryz.ntmps129
 go_wp2_with (first | (go_at_call 155; refine (isPos _ hs _).mono ?_; rintro e w' ⟨rfl, rfl⟩))
 go_ret2
 exact ⟨rfl, rfl⟩
theorem nparse_bad (s : ByteArray) (hs : s.size ≤ 9223372036854775807) (hn : ¬ s.toList = [48]) (hn2 : (s.toList == [48]) = false) (h0 : 0 < s.size) (hb : ((s[0].toNat : Int) == 45) = true) (hp : posForm (bs (s.extract 1 s.size)) = false) (w : World) :
  Calls Tryz.prog 129 #[.string s] w fun e w' => e = .returned (.tuple #[.int .i64 0, .int .i64 104]) ∧ w' = w := by
 go_enter Tryz.func129, Tryz.ntmps129
 go_wp2_with (first | (go_at_call 155; refine (isPos _ (by simp; omega) _).mono ?_; rintro e w' ⟨rfl, rfl⟩))
 go_ret2
 exact ⟨rfl, rfl⟩
theorem parse_empty (w : World) :
  Calls Tryz.prog 129 #[.string ByteArray.empty] w fun e w' => e = .returned (.tuple #[.int .i64 0, .int .i64 104]) ∧ w' = w := by
 go_enter Tryz.func129, Tryz.ntmps129
 go_wp2_with (first | (go_at_call 155; refine (isPos_empty _).mono ?_; rintro e w' ⟨rfl, rfl⟩))
 go_ret2
 exact ⟨rfl, rfl⟩
theorem parse_long (s : ByteArray) (hs : s.size ≤ 9223372036854775807) (hn : ¬ s.toList = [48]) (hn2 : (s.toList == [48]) = false) (h0 : 0 < s.size) (hb : ((s[0].toNat : Int) == 45) = false) (hp : posForm (bs s) = true) (hl : 19 < s.size) (w : World) :
  Calls Tryz.prog 129 #[.string s] w fun e w' => e = .returned (.tuple #[.int .i64 0, .int .i64 100]) ∧ w' = w := by
 go_enter Tryz.func129, Tryz.ntmps129
 go_wp2_with (first | (go_at_call 155; refine (isPos _ hs _).mono ?_; rintro e w' ⟨rfl, rfl⟩))
 go_ret2
 exact ⟨rfl, rfl⟩
theorem nparse_long (s : ByteArray) (hs : s.size ≤ 9223372036854775807) (hn : ¬ s.toList = [48]) (hn2 : (s.toList == [48]) = false) (h0 : 0 < s.size) (hb : ((s[0].toNat : Int) == 45) = true) (hp : posForm (bs (s.extract 1 s.size)) = true) (hl : 20 < s.size) (w : World) :
  Calls Tryz.prog 129 #[.string s] w fun e w' => e = .returned (.tuple #[.int .i64 0, .int .i64 100]) ∧ w' = w := by
 go_enter Tryz.func129, Tryz.ntmps129
 go_wp2_with (first | (go_at_call 155; refine (isPos _ (by simp; omega) _).mono ?_; rintro e w' ⟨rfl, rfl⟩))
 go_ret2
 exact ⟨rfl, rfl⟩
theorem parse_go (s : ByteArray) (hs : s.size ≤ 9223372036854775807) (hn : ¬ s.toList = [48]) (hn2 : (s.toList == [48]) = false) (h0 : 0 < s.size) (hb : ((s[0].toNat : Int) == 45) = false) (hp : posForm (bs s) = true) (hl : s.size ≤ 19) (w : World) :
  Calls Tryz.prog 129 #[.string s] w fun e w' => e = .returned (.tuple #[.int .i64 (num (sg false (val (bs s) : Nat))), .int .i64 (err (sg false (val (bs s) : Nat)))]) ∧ w' = w := by
 have hsz : (bs s).length = s.size := bs_length s
 have hall := posForm_all hp
 have hall' : Hid ((bs s).all isDig = true) := hall
 have hend := val_room_all _ hall (by omega)
 have hend' : Hid (((val (bs s) : Nat) : Int) ≤ 18446744073709551615) := hend
 have hsz' : Hid ((bs s).length = s.size) := hsz
 clear hall hend hsz
 go_enter Tryz.func129, Tryz.ntmps129
 go_wp2_with (first | (go_at_call 155; refine (isPos _ hs _).mono ?_; rintro e w' ⟨rfl, rfl⟩))
 go_loop [6, 32] (fun x i => ∃ (n : Nat) (X : Int), n ≤ s.size ∧ i = .int .i64 n ∧ x = .int .u64 X ∧ 0 ≤ X ∧ X = ((val ((bs s).take n) : Nat) : Int)) (fun _ i => s.size - (intOf i).toNat)
 case atStart => exact ⟨0, 0, by omega, rfl, rfl, by omega, rfl⟩
 case round =>
  obtain ⟨n, X, hns, rfl, rfl, hX0, hX⟩ := hrel
  have HX : Hid (X = ((val ((bs s).take n) : Nat) : Int)) := hX
  by_cases hlt : n < s.size
  ·have hlt2 : n < s.size := hlt
   have hr := val_room (bs s) hall'.out (by rw [hsz'.out]; omega) n (by rw [hsz'.out]; exact hlt)
   rw [← bs_get s n hlt2, ← hX] at hr
   obtain ⟨hr1, hr2, hr3⟩ := hr
   clear hX
   go_wp2
   go_round
   case rel =>
    refine ⟨n + 1, X * 10 + ((s[n].toNat : Int) - 48), by omega, by go_num, rfl, by omega, ?_⟩
    rw [val_take _ n (by rw [hsz'.out]; exact hlt), HX.out, ← bs_get s n hlt2]
    omega
   case measure => simp only [intOf]; omega
  ·clear hX
   have e : X = ((val (bs s) : Nat) : Int) := by
    have := HX.out
    rwa [List.take_of_length_le (by rw [hsz'.out]; omega)] at this
   have hX1 : X ≤ 18446744073709551615 := by rw [e]; exact hend'.out
   have E : Hid (X = ((val (bs s) : Nat) : Int)) := e
   clear e
   go_wp2_with (first | (go_at_call 144; refine (withSign _ _ (by omega) (by omega) _).mono ?_; rintro e w' ⟨rfl, rfl⟩))
   go_ret2
   rw [← E.out]
   exact ⟨rfl, rfl⟩
theorem nparse_go (s : ByteArray) (hs : s.size ≤ 9223372036854775807) (hn : ¬ s.toList = [48]) (hn2 : (s.toList == [48]) = false) (h0 : 0 < s.size) (hb : ((s[0].toNat : Int) == 45) = true) (hp : posForm (bs (s.extract 1 s.size)) = true) (hl : s.size ≤ 20) (w : World) :
  Calls Tryz.prog 129 #[.string s] w fun e w' => e = .returned (.tuple #[.int .i64 (num (sg true (val (bs (s.extract 1 s.size)) : Nat))), .int .i64 (err (sg true (val (bs (s.extract 1 s.size)) : Nat)))]) ∧ w' = w := by
 have hsz : (bs (s.extract 1 s.size)).length = (s.size - 1) := by rw [bs_length]; simp
 have hall := posForm_all hp
 have hall' : Hid ((bs (s.extract 1 s.size)).all isDig = true) := hall
 have hend := val_room_all _ hall (by omega)
 have hend' : Hid (((val (bs (s.extract 1 s.size)) : Nat) : Int) ≤ 18446744073709551615) := hend
 have hsz' : Hid ((bs (s.extract 1 s.size)).length = (s.size - 1)) := hsz
 clear hall hend hsz
 go_enter Tryz.func129, Tryz.ntmps129
 go_wp2_with (first | (go_at_call 155; refine (isPos _ (by simp; omega) _).mono ?_; rintro e w' ⟨rfl, rfl⟩))
 go_loop [6, 32] (fun x i => ∃ (n : Nat) (X : Int), n ≤ (s.size - 1) ∧ i = .int .i64 n ∧ x = .int .u64 X ∧ 0 ≤ X ∧ X = ((val ((bs (s.extract 1 s.size)).take n) : Nat) : Int)) (fun _ i => (s.size - 1) - (intOf i).toNat)
 case atStart => exact ⟨0, 0, by omega, rfl, rfl, by omega, rfl⟩
 case round =>
  obtain ⟨n, X, hns, rfl, rfl, hX0, hX⟩ := hrel
  have HX : Hid (X = ((val ((bs (s.extract 1 s.size)).take n) : Nat) : Int)) := hX
  by_cases hlt : n < (s.size - 1)
  ·have hlt2 : n < (s.extract 1 s.size).size := by simp; omega
   have hr := val_room (bs (s.extract 1 s.size)) hall'.out (by rw [hsz'.out]; omega) n (by rw [hsz'.out]; exact hlt)
   rw [← bs_get (s.extract 1 s.size) n hlt2, ← hX] at hr
   obtain ⟨hr1, hr2, hr3⟩ := hr
   clear hX
   go_wp2
   go_round
   case rel =>
    refine ⟨n + 1, X * 10 + (((s.extract 1 s.size)[n].toNat : Int) - 48), by omega, by go_num, rfl, by omega, ?_⟩
    rw [val_take _ n (by rw [hsz'.out]; exact hlt), HX.out, ← bs_get (s.extract 1 s.size) n hlt2]
    omega
   case measure => simp only [intOf]; omega
  ·clear hX
   have e : X = ((val (bs (s.extract 1 s.size)) : Nat) : Int) := by
    have := HX.out
    rwa [List.take_of_length_le (by rw [hsz'.out]; omega)] at this
   have hX1 : X ≤ 18446744073709551615 := by rw [e]; exact hend'.out
   have E : Hid (X = ((val (bs (s.extract 1 s.size)) : Nat) : Int)) := e
   clear e
   go_wp2_with (first | (go_at_call 144; refine (withSign _ _ (by omega) (by omega) _).mono ?_; rintro e w' ⟨rfl, rfl⟩))
   go_ret2
   rw [← E.out]
   exact ⟨rfl, rfl⟩
theorem parse_nought (w : World) :
  Calls Tryz.prog 129 #[.string ⟨#[48]⟩] w fun e w' => e = .returned (.tuple #[.int .i64 0, .int .i64 0]) ∧ w' = w := by
 go_enter Tryz.func129, Tryz.ntmps129
 go_wp2
 refine wp_loop_rounds 2 ?_
 rw [rounds_succ]
 go_wp2
 rw [rounds_succ]
 go_wp2_with (first | (go_at_call 144; refine (withSign _ _ (by omega) (by omega) _).mono ?_; rintro e w' ⟨rfl, rfl⟩))
 go_ret2
 exact ⟨rfl, rfl⟩
theorem ways {C : Int → Int → Prop} (s : ByteArray) (hs : s.size ≤ 9223372036854775807)
  (nought : s = ⟨#[48]⟩ → C 0 0) (empty : s = ByteArray.empty → C 0 104)
  (plain : ¬ s.toList = [48] → (s.toList == [48]) = false → (h0 : 0 < s.size) → ((s[0].toNat : Int) == 45) = false → C (pn false (bs s)) (pe false (bs s)))
  (signed : ¬ s.toList = [48] → (s.toList == [48]) = false → (h0 : 0 < s.size) → ((s[0].toNat : Int) == 45) = true → C (pn true (bs (s.extract 1 s.size))) (pe true (bs (s.extract 1 s.size)))) :
  C (pnum (bs s)) (perr (bs s)) := by
 have ht : s.toList = bs s := ByteArray.toList_eq s
 by_cases hn : bs s = [48]
 ·have e := nought (nought_of hn)
  rw [hn]
  exact e
 ·have hn1 : ¬ s.toList = [48] := by rw [ht]; exact hn
  have hn2 : (s.toList == [48]) = false := by rw [ht]; simpa using hn
  have hn3 : (bs s == [48]) = false := by simpa using hn
  by_cases h0 : 0 < s.size
  ·by_cases hb : s[0].toNat = 45
   ·have e1 : bl (bs s) = true := by rw [bl_of h0]; simp [hb]
    have e2 : dl (bs s) = bs (s.extract 1 s.size) := by rw [dl, if_pos e1, bs_tail]
    have h := signed hn1 hn2 h0 (by simp [hb])
    unfold pnum perr good pval
    rw [hn3, Bool.false_or, e1, e2]
    exact h
   ·have e1 : bl (bs s) = false := by rw [bl_of h0]; simp [hb]
    have e2 : dl (bs s) = bs s := by rw [dl, if_neg (by rw [e1]; decide)]
    have h := plain hn1 hn2 h0 (by simp; omega)
    unfold pnum perr good pval
    rw [hn3, Bool.false_or, e1, e2]
    exact h
  ·have e : s = ByteArray.empty := by
    apply ByteArray.ext
    apply Array.eq_empty_of_size_eq_zero
    exact Nat.eq_zero_of_not_pos h0
   have h := empty e
   rw [e]
   exact h
theorem parse (s : ByteArray) (hs : s.size ≤ 9223372036854775807) (w : World) :
  Calls Tryz.prog 129 #[.string s] w fun e w' => e = .returned (.tuple #[.int .i64 (pnum (bs s)), .int .i64 (perr (bs s))]) ∧ w' = w := by
 refine ways (C := fun x y => Calls Tryz.prog 129 #[.string s] w fun e w' => e = .returned (.tuple #[.int .i64 x, .int .i64 y]) ∧ w' = w) s hs ?_ ?_ ?_ ?_
 ·rintro rfl
  exact parse_nought w
 ·rintro rfl
  exact parse_empty w
 ·intro hn hn2 h0 hb
  cases hp : posForm (bs s)
  ·rw [pn_bad hp, pe_bad hp]
   exact parse_bad s hs hn hn2 h0 hb hp w
  ·rw [pn_good hp, pe_good hp]
   by_cases hl : 19 < s.size
   ·have ho := long_out false hp (by rw [bs_length]; exact hl)
    rw [num_out ho, err_out ho]
    exact parse_long s hs hn hn2 h0 hb hp hl w
   ·exact parse_go s hs hn hn2 h0 hb hp (by omega) w
 ·intro hn hn2 h0 hb
  cases hp : posForm (bs (s.extract 1 s.size))
  ·rw [pn_bad hp, pe_bad hp]
   exact nparse_bad s hs hn hn2 h0 hb hp w
  ·rw [pn_good hp, pe_good hp]
   by_cases hl : 20 < s.size
   ·have ho := long_out true hp (by rw [bs_length]; simp; omega)
    rw [num_out ho, err_out ho]
    exact nparse_long s hs hn hn2 h0 hb hp hl w
   ·exact nparse_go s hs hn hn2 h0 hb hp (by omega) w
/-! ### The reference's -/
end Go.Proofs.YtghnhkagkngjcaaGreatDoor.Reads

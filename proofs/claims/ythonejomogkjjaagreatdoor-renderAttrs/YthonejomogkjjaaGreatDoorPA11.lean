import Derived.Laws.BitsAllLaws
import Derived.LoopN
import Derived.LoopTactic
import Derived.Maps.OwnSet
import Derived.WalkSpells
import Derived.Test.YthonejomogkjjaaGreatDoorPA00
import Derived.Test.YthonejomogkjjaaGreatDoorPA02
set_option linter.unusedVariables false
set_option maxRecDepth 20000
set_option maxHeartbeats 3200000
namespace Go.Proofs.YthonejomogkjjaaGreatDoor.USmall
open Go.ChangeShapes Go.WideShapes Go.ChangeAt Go.RowKit UBase
theorem letter_c (c : Int) (n : Nat) (h : c = n) (w : World) :
  Calls Tryz.prog 310 #[.int .u8 c] w fun r w' => r = .returned (.bool (let' n)) ∧ w' = w := by
 subst h
 go_enter Tryz.func310, Tryz.ntmps310
 go_wp2
 ·have h : (97 : Int) ≤ n := by assumption
  go_ret
  have e : let' n = decide ((n : Int) ≤ 122) := by unfold let'; simp only [decide_eq_true (show 97 ≤ n by omega), Bool.true_and]; exact decide_eq_decide.mpr (by omega)
  rw [e]
  exact ⟨rfl, rfl⟩
 ·have h : (n : Int) < 97 := by assumption
  go_ret
  have e : let' n = false := by unfold let'; simp; omega
  rw [e]
  exact ⟨rfl, rfl⟩
theorem digit_c (c : Int) (n : Nat) (h : c = n) (w : World) :
  Calls Tryz.prog 311 #[.int .u8 c] w fun r w' => r = .returned (.bool (dig n)) ∧ w' = w := by
 subst h
 go_enter Tryz.func311, Tryz.ntmps311
 go_wp2
 ·have h : (48 : Int) ≤ n := by assumption
  go_ret
  have e : dig n = decide ((n : Int) ≤ 57) := by unfold dig; simp only [decide_eq_true (show 48 ≤ n by omega), Bool.true_and]; exact decide_eq_decide.mpr (by omega)
  rw [e]
  exact ⟨rfl, rfl⟩
 ·have h : (n : Int) < 48 := by assumption
  go_ret
  have e : dig n = false := by unfold dig; simp; omega
  rw [e]
  exact ⟨rfl, rfl⟩
theorem at_list (s : ByteArray) (i : Nat) : at' s i = ((s.data.toList)[i]?.getD 0).toNat := by
 by_cases h : i < s.size
 ·have hl : i < s.data.toList.length := by rw [Array.length_toList]; exact h
  rw [at_get s i h, List.getElem?_eq_getElem hl, Array.getElem_toList]
  rfl
 ·have hl : s.data.toList.length ≤ i := by rw [Array.length_toList]; exact Nat.le_of_not_lt h
  rw [at_out s i h, List.getElem?_eq_none hl]
  rfl
theorem rep_list (d : ByteArray) (h3 : 3 ≤ d.size) : ((d.extract 0 3).toList == [239, 191, 189]) = rep d 0 := by
 rw [ByteArray.toList_eq, ByteArray.data_extract, Array.toList_extract]
 unfold rep
 rw [at_list d 0, at_list d (0 + 1), at_list d (0 + 2)]
 have hl : d.data.toList.length = d.size := Array.length_toList
 generalize d.data.toList = L at *
 match L, hl with
 | x :: y :: z :: r, _ =>
  rw [Bool.eq_iff_iff]
  simp [← UInt8.toNat_inj]
 | [], hl => simp at hl; omega
 | [_], hl => simp at hl; omega
 | [_, _], hl => simp at hl; omega
theorem pre_long (d : ByteArray) (h : d.size ≤ 9223372036854775807) (h3 : 3 ≤ d.size) (w : World) :
  Calls Tryz.prog 296 #[.string d, .string ⟨#[239, 191, 189]⟩] w fun r w' => r = .returned (.bool (rep d 0)) ∧ w' = w := by
 rw [← rep_list d h3]
 go_enter Tryz.func296, Tryz.ntmps296
 go_wp2
 go_ret
 exact ⟨rfl, rfl⟩
theorem pre_short (d : ByteArray) (h3 : ¬ 3 ≤ d.size) (w : World) :
  Calls Tryz.prog 296 #[.string d, .string ⟨#[239, 191, 189]⟩] w fun r w' => r = .returned (.bool (rep d 0)) ∧ w' = w := by
 have e : rep d 0 = false := by unfold rep; rw [at_out d (0 + 2) (by omega)]; simp
 rw [e]
 go_enter Tryz.func296, Tryz.ntmps296
 go_wp2
 go_ret
 exact ⟨rfl, rfl⟩
theorem pre_c (d : ByteArray) (h : d.size ≤ 9223372036854775807) (w : World) :
  Calls Tryz.prog 200 #[.string d] w fun r w' => r = .returned (.bool (rep d 0)) ∧ w' = w := by
 have c26 : ∀ w, Calls Tryz.prog 296 #[.string d, .string ⟨#[239, 191, 189]⟩] w fun r w' => r = .returned (.bool (rep d 0)) ∧ w' = w := fun w => by
  by_cases h3 : 3 ≤ d.size
  ·exact pre_long d h h3 w
  ·exact pre_short d h3 w
 have c23 : ∀ w, Calls Tryz.prog 260 #[.string d, .string ⟨#[239, 191, 189]⟩] w fun r w' => r = .returned (.bool (rep d 0)) ∧ w' = w := fun w => by
  go_enter Tryz.func260, Tryz.ntmps260
  go_wp2_with (first | (go_at_call 296; refine (c26 _).mono ?_; rintro e w' ⟨rfl, rfl⟩))
  go_ret
  exact ⟨rfl, rfl⟩
 go_enter Tryz.func200, Tryz.ntmps200
 go_wp2_with (first | (go_at_call 260; refine (c23 _).mono ?_; rintro e w' ⟨rfl, rfl⟩))
 go_ret
 exact ⟨rfl, rfl⟩
end Go.Proofs.YthonejomogkjjaaGreatDoor.USmall
namespace Go.Proofs.YthonejomogkjjaaGreatDoor.UValid
open Go.ChangeShapes Go.WideShapes Go.ChangeAt Go.RowKit UBase USmall
theorem verr_none {s : ByteArray} (h : bad s 0 = none) : vat s = 0 ∧ verr s = 0 := by unfold vat verr; rw [h]; simp
theorem verr_some {s : ByteArray} {i : Nat} (h : bad s 0 = some i) : vat s = i ∧ verr s = 300 := by unfold vat verr; rw [h]; simp
end Go.Proofs.YthonejomogkjjaaGreatDoor.UValid
namespace Go.Proofs.YthonejomogkjjaaGreatDoor.UOwn
open Go.ChangeShapes Go.WideShapes Go.ChangeAt Go.RowKit UBase USmall UValid
theorem at_extract (s : ByteArray) (i n k : Nat) (hn : n ≤ s.size) (hk : i + k < n) : at' (s.extract i n) k = at' s (i + k) := by
 rw [at_list, at_list, ByteArray.data_extract, Array.toList_extract, List.extract_eq_take_drop, List.getElem?_take, List.getElem?_drop, if_pos (by omega)]
theorem at_behind (s : ByteArray) (i k : Nat) : at' (s.extract i s.size) k = at' s (i + k) := by
 by_cases h : i + k < s.size
 ·exact at_extract s i s.size k (Nat.le_refl _) h
 ·rw [at_out s _ h, at_out _ k (by simp; omega)]
theorem rep_behind (s : ByteArray) (i : Nat) : rep (s.extract i s.size) 0 = rep s i := by
 unfold rep
 rw [at_behind, at_behind, at_behind]
 rfl
theorem valid_c (s : ByteArray) (hs : s.size ≤ 9223372036854775807) (w : World) :
  Calls Tryz.prog 144 #[.string s] w fun r w' => r = .returned (.tuple #[.int .i64 (vat s), .int .i64 (verr s)]) ∧ ∃ p, w' = w.iter s p := by
 go_enter Tryz.func144, Tryz.ntmps144
 go_wp2
 go_loopw [] (fun wr => ∃ n : Nat, n ≤ s.size ∧ wr = w.iter s n ∧ bad s 0 = bad s n) (fun wr => s.size - wr.iterPos w.heap.size)
 case atStart => exact ⟨0, by omega, rfl, rfl⟩
 case round =>
  obtain ⟨n, hn, rfl, hb⟩ := hrel
  have HB : Hid (bad s 0 = bad s n) := hb
  clear hb
  by_cases hlt : n < s.size
  ·have hnx : ∀ ty, (Instr.next (.pointer (some ⟨w.heap.size, 0, none⟩)) true ty).run Tryz.prog (w.iter s n) = _ := fun ty => run_next_any w s n ty hlt
   have hd := dec_len s n
   obtain ⟨hd1, hd2, _⟩ := hd
   have hi := len_in hlt
   have cp : ∀ w, Calls Tryz.prog 200 #[.string (s.extract n s.size)] w fun r w' => r = .returned (.bool (rep s n)) ∧ w' = w := fun w => by
    rw [← rep_behind]
    exact pre_c _ (by simp; omega) w
   by_cases hz : len s n = 0
   ·obtain ⟨e1, e2⟩ := hd1.mp hz
    go_wp2_with (first | (go_at_call 200; refine (cp _).mono ?_; rintro e w' ⟨rfl, rfl⟩))
    go_ret2
    have e := verr_some (HB.out.trans (bad_here hlt hz))
    rw [e.1, e.2]
    exact ⟨rfl, _, rfl⟩
   ·have hw := hd2 hz
    by_cases hf : (Utf8.decode s n).1 = 65533
    ·have e2 : rep s n = true := by
      cases h : rep s n with
      | true => rfl
      | false => exact absurd (hd1.mpr ⟨hf, h⟩) hz
     go_wp2_with (first | (go_at_call 200; refine (cp _).mono ?_; rintro e w' ⟨rfl, rfl⟩))
     go_roundw
     case rel => exact ⟨n + len s n, hi, rfl, HB.out.trans (bad_step hlt hz)⟩
     case measure => simp; omega
    ·have hf' : (((Utf8.decode s n).1 : Int) == 65533) = false := by simp; omega
     go_wp2
     go_roundw
     case rel => exact ⟨n + len s n, hi, rfl, HB.out.trans (bad_step hlt hz)⟩
     case measure => simp; omega
  ·have hnx : ∀ ty, (Instr.next (.pointer (some ⟨w.heap.size, 0, none⟩)) true ty).run Tryz.prog (w.iter s n) = _ := fun ty => run_next_end w s n ty hlt
   go_wp2
   go_ret2
   have e := verr_none (HB.out.trans (bad_end hlt))
   rw [e.1, e.2]
   exact ⟨rfl, _, rfl⟩
end Go.Proofs.YthonejomogkjjaaGreatDoor.UOwn
namespace Go.Proofs.YthonejomogkjjaaGreatDoor.UWord
open Go.ChangeShapes Go.WideShapes Go.ChangeAt Go.RowKit UBase USmall
theorem size_empty {s : ByteArray} (h : s.size = 0) : s = ByteArray.empty := by
 apply ByteArray.ext
 apply Array.eq_empty_of_size_eq_zero
 exact h
theorem word_of {s : ByteArray} {j : Nat} (h1 : 0 < s.size) (h2 : s.size ≤ 32) (h3 : let' (at' s 0) = true) (h4 : ∀ i, i < s.size → sign j (at' s i) = true) : word s j = true := by
 unfold word
 simp only [decide_eq_true h1, decide_eq_true h2, h3, Bool.true_and]
 exact decide_eq_true h4
theorem word_not {s : ByteArray} {j : Nat} (h : ¬ (0 < s.size ∧ s.size ≤ 32 ∧ let' (at' s 0) = true)) : word s j = false := by
 cases e : word s j with
 | false => rfl
 | true =>
  unfold word at e
  simp only [Bool.and_eq_true, decide_eq_true_eq] at e
  exact absurd ⟨e.1, e.2.1, e.2.2.1⟩ h
theorem word_bad {s : ByteArray} {j i : Nat} (hi : i < s.size) (h : sign j (at' s i) = false) : word s j = false := by
 cases e : word s j with
 | false => rfl
 | true =>
  unfold word at e
  simp only [Bool.and_eq_true, decide_eq_true_eq] at e
  rw [e.2.2.2 i hi] at h
  cases h
theorem sign_let {j c : Nat} (h : let' c = true) : sign j c = true := by unfold sign; rw [h]; rfl
theorem sign_dig {j c : Nat} (h : dig c = true) : sign j c = true := by unfold sign; rw [h]; simp
theorem sign_joint {j c : Nat} (h : ((c : Int) != (j : Int)) = false) : sign j c = true := by
 have e : c = j := by simp at h; omega
 unfold sign
 rw [decide_eq_true e]
 simp
theorem sign_none {j c : Nat} (h1 : ¬ let' c = true) (h2 : ¬ dig c = true) (h : ((c : Int) != (j : Int)) = true) : sign j c = false := by
 have e : ¬ c = j := by simp at h; omega
 unfold sign
 simp [h1, h2, e]
theorem own_empty (j : Int) (w : World) :
  Calls Tryz.prog 295 #[.string ByteArray.empty, .int .u8 j] w fun r w' => r = .returned (.bool false) ∧ w' = w := by
 go_enter Tryz.func295, Tryz.ntmps295
 go_wp2
 go_ret
 exact ⟨rfl, rfl⟩
theorem own_long (s : ByteArray) (h : 32 < s.size) (hs : s.size ≤ 9223372036854775807) (j : Int) (w : World) :
  Calls Tryz.prog 295 #[.string s, .int .u8 j] w fun r w' => r = .returned (.bool false) ∧ w' = w := by
 have h0 : 0 < s.size := by omega
 have he : ¬ s = ByteArray.empty := fun h => by subst h; revert h0; decide
 have he2 : ((s.size : Int) == 0) = false := by simp; omega
 go_enter Tryz.func295, Tryz.ntmps295
 go_wp2
 go_ret
 exact ⟨rfl, rfl⟩
theorem own_first (s : ByteArray) (h0 : 0 < s.size) (h : s.size ≤ 32) (hl : let' s[0].toNat = false) (j : Int) (w : World) :
  Calls Tryz.prog 295 #[.string s, .int .u8 j] w fun r w' => r = .returned (.bool false) ∧ w' = w := by
 have he : ¬ s = ByteArray.empty := fun h => by subst h; revert h0; decide
 have he2 : ((s.size : Int) == 0) = false := by simp; omega
 have he3 : decide ((32 : Int) < (s.size : Int)) = false := by simp; omega
 go_enter Tryz.func295, Tryz.ntmps295
 go_wp2_with (first | (go_at_call 310; refine (letter_c _ (s[0].toNat) rfl _).mono ?_; rintro e w' ⟨rfl, rfl⟩))
 go_ret
 exact ⟨rfl, rfl⟩
theorem own_go (s : ByteArray) (h0 : 0 < s.size) (h : s.size ≤ 32) (hl : let' s[0].toNat = true) (j : Nat) (w : World) :
  Calls Tryz.prog 295 #[.string s, .int .u8 j] w fun r w' => r = .returned (.bool (word s j)) ∧ w' = w := by
 have he : ¬ s = ByteArray.empty := fun h => by subst h; revert h0; decide
 have he2 : ((s.size : Int) == 0) = false := by simp; omega
 have he3 : decide ((32 : Int) < (s.size : Int)) = false := by simp; omega
 go_enter Tryz.func295, Tryz.ntmps295
 go_wp2_with (first | (go_at_call 310; refine (letter_c _ (s[0].toNat) rfl _).mono ?_; rintro e w' ⟨rfl, rfl⟩))
 go_loop [22] (fun i => ∃ n : Nat, n ≤ s.size ∧ i = .int .i64 n ∧ ∀ i, i < n → sign j (at' s i) = true) (fun i => s.size - (intOf i).toNat)
 case atStart => exact ⟨0, by omega, rfl, fun i hi => by omega⟩
 case round =>
  obtain ⟨n, hn, rfl, ha⟩ := hrel
  have HA : Hid (∀ i, i < n → sign j (at' s i) = true) := ha
  clear ha
  by_cases hlt : n < s.size
  ·have E : Hid (at' s n = (s[n]'hlt).toNat) := at_get s n hlt
   go_wp2_with (first
    | (go_at_call 310; refine (letter_c _ (s[n].toNat) rfl _).mono ?_; rintro e w' ⟨rfl, rfl⟩)
    | (go_at_call 311; refine (digit_c _ (s[n].toNat) rfl _).mono ?_; rintro e w' ⟨rfl, rfl⟩))
   ·have g : sign j s[n].toNat = true := sign_let (by assumption)
    go_round
    case rel =>
     refine ⟨n + 1, by omega, by go_num, fun i hi => ?_⟩
     by_cases c : i < n
     ·exact HA.out i c
     ·obtain rfl : i = n := by omega
      rw [E.out]
      exact g
    case measure => simp only [intOf]; omega
   ·have g : sign j s[n].toNat = true := sign_dig (by assumption)
    go_round
    case rel =>
     refine ⟨n + 1, by omega, by go_num, fun i hi => ?_⟩
     by_cases c : i < n
     ·exact HA.out i c
     ·obtain rfl : i = n := by omega
      rw [E.out]
      exact g
    case measure => simp only [intOf]; omega
   ·have g : sign j s[n].toNat = false := sign_none (by assumption) (by assumption) (by assumption)
    go_ret
    have e : word s j = false := word_bad hlt (by rw [E.out]; exact g)
    rw [e]
    exact ⟨rfl, rfl⟩
   ·have g : sign j s[n].toNat = true := sign_joint (by assumption)
    go_round
    case rel =>
     refine ⟨n + 1, by omega, by go_num, fun i hi => ?_⟩
     by_cases c : i < n
     ·exact HA.out i c
     ·obtain rfl : i = n := by omega
      rw [E.out]
      exact g
    case measure => simp only [intOf]; omega
  ·go_wp2
   go_ret
   have e : word s j = true := word_of h0 h (by rw [at_get s 0 h0]; exact hl) (fun i hi => HA.out i (by omega))
   rw [e]
   exact ⟨rfl, rfl⟩
theorem own_c (s : ByteArray) (hs : s.size ≤ 9223372036854775807) (j : Nat) (w : World) :
  Calls Tryz.prog 295 #[.string s, .int .u8 j] w fun r w' => r = .returned (.bool (word s j)) ∧ w' = w := by
 by_cases h0 : 0 < s.size
 ·by_cases h : s.size ≤ 32
  ·have e := at_get s 0 h0
   cases hl : let' s[0].toNat with
   | true => exact own_go s h0 h hl j w
   | false =>
    rw [word_not (by rw [e, hl]; simp)]
    exact own_first s h0 h hl j w
  ·rw [word_not (by omega)]
   exact own_long s (by omega) hs j w
 ·rw [word_not (by omega)]
  obtain rfl := size_empty (by omega : s.size = 0)
  exact own_empty j w
theorem tag_c (s : ByteArray) (hs : s.size ≤ 9223372036854775807) (w : World) :
  Calls Tryz.prog 283 #[.string s] w fun r w' => r = .returned (.bool (word s 45)) ∧ w' = w := by
 go_enter Tryz.func283, Tryz.ntmps283
 go_wp2_with (first | (go_at_call 295; refine (own_c s hs 45 _).mono ?_; rintro e w' ⟨rfl, rfl⟩))
 go_ret
 exact ⟨rfl, rfl⟩
end Go.Proofs.YthonejomogkjjaaGreatDoor.UWord
namespace Go.Proofs.YthonejomogkjjaaGreatDoor.SNm
open Go.RowKit UBase
theorem Name_c (s : ByteArray) (hs : s.size ≤ 9223372036854775807) (w : World) :
  Calls Tryz.prog 259 #[.string s] w fun r w' => r = .returned (.bool (UBase.word s 95)) ∧ w' = w := by
 have c1 := UWord.own_c s hs 95 w
 go_enter Tryz.func259, Tryz.ntmps259
 go_wp2_with (first | (go_at_call 295; refine c1.mono ?_; rintro e w' ⟨rfl, rfl⟩))
 go_ret
 exact ⟨rfl, rfl⟩
end Go.Proofs.YthonejomogkjjaaGreatDoor.SNm
namespace Go.Proofs.YthonejomogkjjaaGreatDoor.STx
open Go.RowKit Base UBase UValid UOwn
def tg (s : ByteArray) : Bool := decide (s.size ≤ 4096) && (verr s == 0)
theorem iter_below (w : World) (s : ByteArray) (p : Nat) : Below w.heap.size w (w.iter s p) := (Below.refl _ w).alloc (Nat.le_refl _) _
theorem verr_cases (s : ByteArray) : verr s = 0 ∨ verr s = 300 := by
 cases h : bad s 0 with
 | none => exact .inl (verr_none h).2
 | some i => exact .inr (verr_some h).2
theorem tmb_c (s : ByteArray) (hs : s.size ≤ 140737488351232) (w : World) :
  Calls Tryz.prog 101 #[.string s] w fun r w' => r = .returned (.bool (tg s)) ∧ Below w.heap.size w w' := by
 have c71 := valid_c s (by omega) w
 by_cases h : s.size ≤ 4096
 ·have e : tg s = (verr s == 0) := by simp [tg, h]
  rw [e]
  have hv := verr_cases s
  generalize verr s = x at *
  generalize vat s = y at *
  have h' : decide ((4096 : Int) < (s.size : Int)) = false := decide_eq_false (by omega)
  clear e
  rcases hv with rfl | rfl
  ·go_enter Tryz.func101, Tryz.ntmps101
   go_wp2_with (first | (go_at_call 144; refine c71.mono ?_; rintro e w' ⟨rfl, p, rfl⟩))
   go_ret
   exact ⟨rfl, iter_below _ _ _⟩
  ·go_enter Tryz.func101, Tryz.ntmps101
   go_wp2_with (first | (go_at_call 144; refine c71.mono ?_; rintro e w' ⟨rfl, p, rfl⟩))
   go_ret
   exact ⟨rfl, iter_below _ _ _⟩
 ·have e : tg s = false := by simp [tg, h]
  rw [e]
  have h' : decide ((4096 : Int) < (s.size : Int)) = true := decide_eq_true (by omega)
  clear c71 e
  go_enter Tryz.func101, Tryz.ntmps101
  go_wp2_with fail
  go_ret
  exact ⟨rfl, Below.refl _ _⟩
end Go.Proofs.YthonejomogkjjaaGreatDoor.STx
namespace Go.Proofs.YthonejomogkjjaaGreatDoor.Pure
open Go.RowKit Base UBase UValid UOwn
def tg (s : ByteArray) : Bool := decide (s.size ≤ 4096) && (verr s == 0)
theorem iter_below (w : World) (s : ByteArray) (p : Nat) : Below w.heap.size w (w.iter s p) := (Below.refl _ w).alloc (Nat.le_refl _) _
theorem verr_cases (s : ByteArray) : verr s = 0 ∨ verr s = 300 := by
 cases h : bad s 0 with
 | none => exact .inl (verr_none h).2
 | some i => exact .inr (verr_some h).2
theorem tmb_c (s : ByteArray) (hs : s.size ≤ 140737488351232) (w : World) :
  Calls Tryz.prog 101 #[.string s] w fun r w' => r = .returned (.bool (tg s)) ∧ Below w.heap.size w w' := by
 have c71 := valid_c s (by omega) w
 by_cases h : s.size ≤ 4096
 ·have e : tg s = (verr s == 0) := by simp [tg, h]
  rw [e]
  have hv := verr_cases s
  generalize verr s = x at *
  generalize vat s = y at *
  have h' : decide ((4096 : Int) < (s.size : Int)) = false := decide_eq_false (by omega)
  clear e
  rcases hv with rfl | rfl
  ·go_enter Tryz.func101, Tryz.ntmps101
   go_wp2_with (first | (go_at_call 144; refine c71.mono ?_; rintro e w' ⟨rfl, p, rfl⟩))
   go_ret
   exact ⟨rfl, iter_below _ _ _⟩
  ·go_enter Tryz.func101, Tryz.ntmps101
   go_wp2_with (first | (go_at_call 144; refine c71.mono ?_; rintro e w' ⟨rfl, p, rfl⟩))
   go_ret
   exact ⟨rfl, iter_below _ _ _⟩
 ·have e : tg s = false := by simp [tg, h]
  rw [e]
  have h' : decide ((4096 : Int) < (s.size : Int)) = true := decide_eq_true (by omega)
  clear c71 e
  go_enter Tryz.func101, Tryz.ntmps101
  go_wp2_with fail
  go_ret
  exact ⟨rfl, Below.refl _ _⟩
def pu (k : Int) (b : Bool) (i : Int) (s : ByteArray) (n1 n2 : Nat) : Bool :=
 (decide (k = 2) || !b) && (decide (k = 3) || decide (i = 0)) && (decide (k = 4) || s.toList.isEmpty) && (decide (k = 5 ∨ k = 6) || decide (n2 = 0)) && (decide (k = 6) || decide (n1 = 0))
theorem pure_c (k : Int) (b : Bool) (i : Int) (s : ByteArray) (a1 a2 : Option Addr) (n1 n2 c1 c2 : Nat) (w : World) :
  Calls Tryz.prog 173 #[.agg #[.int .i64 k, .bool b, .int .i64 i, .string s, .slice a1 n1 c1, .slice a2 n2 c2]] w fun r w' => r = .returned (.bool (pu k b i s n1 n2)) ∧ Below w.heap.size w w' := by
 by_cases h2 : k = 2
 ·subst h2
  by_cases hi : ¬ i = 0
  ·have e : pu 2 b i s n1 n2 = false := by simp [pu, hi]
   rw [e]
   have hi' : (i == 0) = false := by simp [hi]
   clear e
   go_enter Tryz.func173, Tryz.ntmps173
   go_wp2_with fail
   go_ret
   exact ⟨rfl, (Below.refl _ w).alloc (Nat.le_refl _) _⟩
  have hi0 : i = 0 := Decidable.of_not_not hi
  subst hi0
  clear hi
  cases hs : s.toList.isEmpty with
  | false =>
   have e : pu 2 b 0 s n1 n2 = false := by simp only [pu, hs]; simp
   rw [e]
   clear e
   go_enter Tryz.func173, Tryz.ntmps173
   go_wp2_with fail
   go_ret
   exact ⟨rfl, (Below.refl _ w).alloc (Nat.le_refl _) _⟩
  | true =>
   by_cases hl : ¬ n2 = 0
   ·have e : pu 2 b 0 s n1 n2 = false := by simp only [pu, hs]; simp [hl]
    rw [e]
    have hl' : ((n2 : Int) == 0) = false := by simp [hl]
    clear e
    go_enter Tryz.func173, Tryz.ntmps173
    go_wp2_with fail
    go_ret
    exact ⟨rfl, (Below.refl _ w).alloc (Nat.le_refl _) _⟩
   have hl0 : n2 = 0 := Decidable.of_not_not hl
   subst hl0
   clear hl
   by_cases hn : ¬ n1 = 0
   ·have e : pu 2 b 0 s n1 0 = false := by simp only [pu, hs]; simp [hn]
    rw [e]
    have hn' : ((n1 : Int) == 0) = false := by simp [hn]
    clear e
    go_enter Tryz.func173, Tryz.ntmps173
    go_wp2_with fail
    go_ret
    exact ⟨rfl, (Below.refl _ w).alloc (Nat.le_refl _) _⟩
   have hn0 : n1 = 0 := Decidable.of_not_not hn
   subst hn0
   clear hn
   have e : pu 2 b 0 s 0 0 = true := by simp only [pu, hs]; simp
   rw [e]
   clear e
   go_enter Tryz.func173, Tryz.ntmps173
   go_wp2_with fail
   go_ret
   exact ⟨rfl, (Below.refl _ w).alloc (Nat.le_refl _) _⟩
 by_cases h3 : k = 3
 ·subst h3
  cases b with
  | true =>
   have e : pu 3 true i s n1 n2 = false := by simp [pu]
   rw [e]
   clear e
   go_enter Tryz.func173, Tryz.ntmps173
   go_wp2_with fail
   go_ret
   exact ⟨rfl, (Below.refl _ w).alloc (Nat.le_refl _) _⟩
  | false =>
   cases hs : s.toList.isEmpty with
   | false =>
    have e : pu 3 false i s n1 n2 = false := by simp only [pu, hs]; simp
    rw [e]
    clear e
    go_enter Tryz.func173, Tryz.ntmps173
    go_wp2_with fail
    go_ret
    exact ⟨rfl, (Below.refl _ w).alloc (Nat.le_refl _) _⟩
   | true =>
    by_cases hl : ¬ n2 = 0
    ·have e : pu 3 false i s n1 n2 = false := by simp only [pu, hs]; simp [hl]
     rw [e]
     have hl' : ((n2 : Int) == 0) = false := by simp [hl]
     clear e
     go_enter Tryz.func173, Tryz.ntmps173
     go_wp2_with fail
     go_ret
     exact ⟨rfl, (Below.refl _ w).alloc (Nat.le_refl _) _⟩
    have hl0 : n2 = 0 := Decidable.of_not_not hl
    subst hl0
    clear hl
    by_cases hn : ¬ n1 = 0
    ·have e : pu 3 false i s n1 0 = false := by simp only [pu, hs]; simp [hn]
     rw [e]
     have hn' : ((n1 : Int) == 0) = false := by simp [hn]
     clear e
     go_enter Tryz.func173, Tryz.ntmps173
     go_wp2_with fail
     go_ret
     exact ⟨rfl, (Below.refl _ w).alloc (Nat.le_refl _) _⟩
    have hn0 : n1 = 0 := Decidable.of_not_not hn
    subst hn0
    clear hn
    have e : pu 3 false i s 0 0 = true := by simp only [pu, hs]; simp
    rw [e]
    clear e
    go_enter Tryz.func173, Tryz.ntmps173
    go_wp2_with fail
    go_ret
    exact ⟨rfl, (Below.refl _ w).alloc (Nat.le_refl _) _⟩
 by_cases h4 : k = 4
 ·subst h4
  cases b with
  | true =>
   have e : pu 4 true i s n1 n2 = false := by simp [pu]
   rw [e]
   clear e
   go_enter Tryz.func173, Tryz.ntmps173
   go_wp2_with fail
   go_ret
   exact ⟨rfl, (Below.refl _ w).alloc (Nat.le_refl _) _⟩
  | false =>
   by_cases hi : ¬ i = 0
   ·have e : pu 4 false i s n1 n2 = false := by simp [pu, hi]
    rw [e]
    have hi' : (i == 0) = false := by simp [hi]
    clear e
    go_enter Tryz.func173, Tryz.ntmps173
    go_wp2_with fail
    go_ret
    exact ⟨rfl, (Below.refl _ w).alloc (Nat.le_refl _) _⟩
   have hi0 : i = 0 := Decidable.of_not_not hi
   subst hi0
   clear hi
   by_cases hl : ¬ n2 = 0
   ·have e : pu 4 false 0 s n1 n2 = false := by simp only [pu]; simp [hl]
    rw [e]
    have hl' : ((n2 : Int) == 0) = false := by simp [hl]
    clear e
    go_enter Tryz.func173, Tryz.ntmps173
    go_wp2_with fail
    go_ret
    exact ⟨rfl, (Below.refl _ w).alloc (Nat.le_refl _) _⟩
   have hl0 : n2 = 0 := Decidable.of_not_not hl
   subst hl0
   clear hl
   by_cases hn : ¬ n1 = 0
   ·have e : pu 4 false 0 s n1 0 = false := by simp only [pu]; simp [hn]
    rw [e]
    have hn' : ((n1 : Int) == 0) = false := by simp [hn]
    clear e
    go_enter Tryz.func173, Tryz.ntmps173
    go_wp2_with fail
    go_ret
    exact ⟨rfl, (Below.refl _ w).alloc (Nat.le_refl _) _⟩
   have hn0 : n1 = 0 := Decidable.of_not_not hn
   subst hn0
   clear hn
   have e : pu 4 false 0 s 0 0 = true := by simp only [pu]; simp
   rw [e]
   clear e
   go_enter Tryz.func173, Tryz.ntmps173
   go_wp2_with fail
   go_ret
   exact ⟨rfl, (Below.refl _ w).alloc (Nat.le_refl _) _⟩
 by_cases h5 : k = 5
 ·subst h5
  cases b with
  | true =>
   have e : pu 5 true i s n1 n2 = false := by simp [pu]
   rw [e]
   clear e
   go_enter Tryz.func173, Tryz.ntmps173
   go_wp2_with fail
   go_ret
   exact ⟨rfl, (Below.refl _ w).alloc (Nat.le_refl _) _⟩
  | false =>
   by_cases hi : ¬ i = 0
   ·have e : pu 5 false i s n1 n2 = false := by simp [pu, hi]
    rw [e]
    have hi' : (i == 0) = false := by simp [hi]
    clear e
    go_enter Tryz.func173, Tryz.ntmps173
    go_wp2_with fail
    go_ret
    exact ⟨rfl, (Below.refl _ w).alloc (Nat.le_refl _) _⟩
   have hi0 : i = 0 := Decidable.of_not_not hi
   subst hi0
   clear hi
   cases hs : s.toList.isEmpty with
   | false =>
    have e : pu 5 false 0 s n1 n2 = false := by simp only [pu, hs]; simp
    rw [e]
    clear e
    go_enter Tryz.func173, Tryz.ntmps173
    go_wp2_with fail
    go_ret
    exact ⟨rfl, (Below.refl _ w).alloc (Nat.le_refl _) _⟩
   | true =>
    by_cases hn : ¬ n1 = 0
    ·have e : pu 5 false 0 s n1 n2 = false := by simp only [pu, hs]; simp [hn]
     rw [e]
     have hn' : ((n1 : Int) == 0) = false := by simp [hn]
     clear e
     go_enter Tryz.func173, Tryz.ntmps173
     go_wp2_with fail
     go_ret
     exact ⟨rfl, (Below.refl _ w).alloc (Nat.le_refl _) _⟩
    have hn0 : n1 = 0 := Decidable.of_not_not hn
    subst hn0
    clear hn
    have e : pu 5 false 0 s 0 n2 = true := by simp only [pu, hs]; simp
    rw [e]
    clear e
    go_enter Tryz.func173, Tryz.ntmps173
    go_wp2_with fail
    go_ret
    exact ⟨rfl, (Below.refl _ w).alloc (Nat.le_refl _) _⟩
 by_cases h6 : k = 6
 ·subst h6
  cases b with
  | true =>
   have e : pu 6 true i s n1 n2 = false := by simp [pu]
   rw [e]
   clear e
   go_enter Tryz.func173, Tryz.ntmps173
   go_wp2_with fail
   go_ret
   exact ⟨rfl, (Below.refl _ w).alloc (Nat.le_refl _) _⟩
  | false =>
   by_cases hi : ¬ i = 0
   ·have e : pu 6 false i s n1 n2 = false := by simp [pu, hi]
    rw [e]
    have hi' : (i == 0) = false := by simp [hi]
    clear e
    go_enter Tryz.func173, Tryz.ntmps173
    go_wp2_with fail
    go_ret
    exact ⟨rfl, (Below.refl _ w).alloc (Nat.le_refl _) _⟩
   have hi0 : i = 0 := Decidable.of_not_not hi
   subst hi0
   clear hi
   cases hs : s.toList.isEmpty with
   | false =>
    have e : pu 6 false 0 s n1 n2 = false := by simp only [pu, hs]; simp
    rw [e]
    clear e
    go_enter Tryz.func173, Tryz.ntmps173
    go_wp2_with fail
    go_ret
    exact ⟨rfl, (Below.refl _ w).alloc (Nat.le_refl _) _⟩
   | true =>
    have e : pu 6 false 0 s n1 n2 = true := by simp only [pu, hs]; simp
    rw [e]
    clear e
    go_enter Tryz.func173, Tryz.ntmps173
    go_wp2_with fail
    go_ret
    exact ⟨rfl, (Below.refl _ w).alloc (Nat.le_refl _) _⟩
 have h2' : (k == 2) = false := by simp [h2]
 have h3' : (k == 3) = false := by simp [h3]
 have h4' : (k == 4) = false := by simp [h4]
 have h5' : (k == 5) = false := by simp [h5]
 have h6' : (k == 6) = false := by simp [h6]
 cases b with
 | true =>
  have e : pu k true i s n1 n2 = false := by simp [pu, h2, h3, h4, h5, h6]
  rw [e]
  clear e
  go_enter Tryz.func173, Tryz.ntmps173
  go_wp2_with fail
  go_ret
  exact ⟨rfl, (Below.refl _ w).alloc (Nat.le_refl _) _⟩
 | false =>
  by_cases hi : ¬ i = 0
  ·have e : pu k false i s n1 n2 = false := by simp [pu, hi, h2, h3, h4, h5, h6]
   rw [e]
   have hi' : (i == 0) = false := by simp [hi]
   clear e
   go_enter Tryz.func173, Tryz.ntmps173
   go_wp2_with fail
   go_ret
   exact ⟨rfl, (Below.refl _ w).alloc (Nat.le_refl _) _⟩
  have hi0 : i = 0 := Decidable.of_not_not hi
  subst hi0
  clear hi
  cases hs : s.toList.isEmpty with
  | false =>
   have e : pu k false 0 s n1 n2 = false := by simp only [pu, hs]; simp [h2, h3, h4, h5, h6]
   rw [e]
   clear e
   go_enter Tryz.func173, Tryz.ntmps173
   go_wp2_with fail
   go_ret
   exact ⟨rfl, (Below.refl _ w).alloc (Nat.le_refl _) _⟩
  | true =>
   by_cases hl : ¬ n2 = 0
   ·have e : pu k false 0 s n1 n2 = false := by simp only [pu, hs]; simp [hl, h2, h3, h4, h5, h6]
    rw [e]
    have hl' : ((n2 : Int) == 0) = false := by simp [hl]
    clear e
    go_enter Tryz.func173, Tryz.ntmps173
    go_wp2_with fail
    go_ret
    exact ⟨rfl, (Below.refl _ w).alloc (Nat.le_refl _) _⟩
   have hl0 : n2 = 0 := Decidable.of_not_not hl
   subst hl0
   clear hl
   by_cases hn : ¬ n1 = 0
   ·have e : pu k false 0 s n1 0 = false := by simp only [pu, hs]; simp [hn, h2, h3, h4, h5, h6]
    rw [e]
    have hn' : ((n1 : Int) == 0) = false := by simp [hn]
    clear e
    go_enter Tryz.func173, Tryz.ntmps173
    go_wp2_with fail
    go_ret
    exact ⟨rfl, (Below.refl _ w).alloc (Nat.le_refl _) _⟩
   have hn0 : n1 = 0 := Decidable.of_not_not hn
   subst hn0
   clear hn
   have e : pu k false 0 s 0 0 = true := by simp only [pu, hs]; simp
   rw [e]
   clear e
   go_enter Tryz.func173, Tryz.ntmps173
   go_wp2_with fail
   go_ret
   exact ⟨rfl, (Below.refl _ w).alloc (Nat.le_refl _) _⟩
end Go.Proofs.YthonejomogkjjaaGreatDoor.Pure
namespace Go.Proofs.YthonejomogkjjaaGreatDoor.Names
open Go.RowKit Go.Maps Go.WideMaps Base Go.Proofs.YthonejomogkjjaaGreatDoor.Pure Go.Proofs.YthonejomogkjjaaGreatDoor.Eq
def key (x : ByteArray) : Lit := .string x.data.toList
theorem key_inj {x y : ByteArray} (h : key x = key y) : x = y := by
 have h2 : x.data.toList = y.data.toList := by simpa [key] using h
 apply ByteArray.ext
 exact Array.toList_inj.1 h2
structure Dat (D : DataW Unit) (L : List ByteArray) : Prop where
 tidy : Tidy D
 has : ∀ x, Maps.has D (key x) = true ↔ x ∈ L
 le : Maps.size D ≤ L.length
 eq : Maps.size D = L.length ↔ L.Nodup
theorem Dat.nil : Dat (.map []) [] := ⟨tidy_empty, fun x => by simp [Maps.has], by simp [Maps.size], by simp [Maps.size]⟩
theorem Dat.snoc {D : DataW Unit} {L : List ByteArray} (h : Dat D L) (x : ByteArray) (d : DataW Unit) : Dat (D.put (key x) d) (L ++ [x]) := by
 have hk : WideAt.IsKeyLit (key x) := trivial
 have hsz := size_put (k := key x) h.tidy d
 refine ⟨h.tidy.put hk d, fun y => ?_, ?_, ?_⟩
 ·by_cases hy : y = x
  ·subst hy
   rw [has_put_same h.tidy.isMap hk d]
   simp
  ·rw [has_put_other (fun e => hy (key_inj e)) d, h.has y]
   simp [hy]
 ·rw [hsz, List.length_append]
  have := h.le
  split <;> simp <;> omega
 ·rw [hsz, List.length_append, List.nodup_append]
  have hle := h.le
  have heq := h.eq
  by_cases hx : x ∈ L
  ·rw [if_pos ((h.has x).2 hx)]
   constructor
   ·intro e; simp at e; omega
   ·intro ⟨_, _, e⟩
    exact absurd rfl (e x hx x (by simp))
  ·rw [if_neg (fun e => hx ((h.has x).1 e))]
   constructor
   ·intro e
    refine ⟨heq.1 (by simp at e; omega), by simp, ?_⟩
    intro a ha b hb
    simp at hb
    subst hb
    intro e2
    subst e2
    exact hx ha
   ·intro ⟨e, _⟩
    have := heq.2 e
    simp [this]
theorem law9 : Keyed Tryz.prog 9 := string_keyed Tryz.underlying9
def nd : List ByteArray → Bool
 | [] => true
 | a :: l => !(l.any (eqB a)) && nd l
theorem nd_iff {L : List ByteArray} : nd L = true ↔ L.Nodup := by
 induction L with
 | nil => simp [nd]
 | cons a l ih =>
  rw [nd, Bool.and_eq_true, ih, List.nodup_cons]
  have : (!(l.any (eqB a))) = true ↔ ¬ a ∈ l := by
   rw [Bool.not_eq_true', ← Bool.not_eq_true, List.any_eq_true]
   constructor
   ·intro h ha
    exact h ⟨a, ha, eqB_eq.2 rfl⟩
   ·rintro h ⟨x, hx, e⟩
    rw [eqB_eq] at e
    subst e
    exact h hx
  rw [this]
def nmb (n : List ByteArray) (ll : Nat) : Bool := decide (n.length = ll) && n.all tg && nd n
theorem makeHint (n : Int) (w : World) : (Instr.makeMap 263 (some (.int .i64 n))).run Tryz.prog w = .ok (.map (some w.heap.size)) (w.alloc (.map #[] 0)) := by
 simp [Instr.makeMap, run_underlying Tryz.underlying263, asInt]
 rfl
theorem names_c {m : Nat} {v : Value} {c : C} {w : World} (h : In false All w m v c) :
  Calls Tryz.prog 174 #[v] w fun r w' => r = .returned (.bool (nmb c.n c.l.length)) ∧ Below w.heap.size w w' := by
 obtain ⟨m', nv, lv, -, rfl, -, -, -, hn, hl⟩ := h.shape
 obtain ⟨a', cap', rfl, hlc', hcm', hlen', hnil', -⟩ := hl.out
 obtain ⟨a, cap, rfl, hlc, hcm, hlen, hsz, hnil, hN⟩ := hn.out
 clear h hn hl
 obtain ⟨k, b, i, s, n, l⟩ := c
 simp only [C.k, C.b, C.i, C.s, C.n, C.l] at *
 generalize l.length = ll at *
 by_cases hne : n.length = ll
 ·subst hne
  have e : nmb n n.length = (n.all tg && nd n) := by simp [nmb]
  rw [e]
  clear e
  have hmm := makeHint
  obtain ⟨W0, hW0⟩ : ∃ W0, w.alloc (.cells #[.int .i64 k, .bool b, .int .i64 i, .string s, .slice a n.length cap, .slice a' n.length cap'] 26) = W0 := ⟨_, rfl⟩
  have hb0 : Below w.heap.size w W0 := by rw [← hW0]; exact (Below.refl _ w).alloc (Nat.le_refl _) _
  have hx0 : W0.heap[w.heap.size]? = some (.cells #[.int .i64 k, .bool b, .int .i64 i, .string s, .slice a n.length cap, .slice a' n.length cap'] 26) := by rw [← hW0, heap_alloc_new]
  have hs0 : W0.heap.size = w.heap.size + 1 := by rw [← hW0]; simp
  obtain ⟨d0, d1, d2, d3, d4, d5⟩ := six_box hx0
  have HR : Hid (∀ q, q ≤ n.length → True) := fun _ _ => trivial
  generalize hR : (n.all tg && nd n) = R
  have HH : Hid ((n.all tg && nd n) = R) := hR
  clear hR HR
  go_enter Tryz.func174, Tryz.ntmps174
  go_wp2_with fail
  go_loopw [20] (fun i' wr => ∃ (q : Nat) (D : DataW Unit), q ≤ n.length ∧ i' = .int .i64 q ∧ wr.ownsMap Tryz.prog 9 (plainElem Tryz.prog 3) (w.heap.size + 1) q D ∧ Dat D (n.take q) ∧ ((n.take q).all tg = true) ∧ Below (w.heap.size + 1) W0 wr)
   (fun i' _ => n.length - (intOf i').toNat)
  case atStart =>
   refine ⟨0, .map [], by omega, rfl, ?_, by simpa using Dat.nil, by simp, (Below.refl _ _).alloc (by omega) _⟩
   have := World.ownsMap_made (H := Unit) W0 Tryz.prog 9 (plainElem Tryz.prog 3)
   rwa [hs0] at this
  case round =>
   obtain ⟨q, D, hq, rfl, hown, hD, htg, hb⟩ := hrel
   have HD : Hid (Dat D (n.take q) ∧ (n.take q).all tg = true) := ⟨hD, htg⟩
   have hsle : Maps.size D ≤ q := by have := hD.le; rw [List.length_take] at this; omega
   clear hD htg
   obtain ⟨-, -, -, -, y4, -⟩ := six_box ((hb.block w.heap.size (by omega)).trans hx0)
   have hbw : Below w.heap.size w wr := hb0.trans (hb.mono (by omega))
   by_cases hlt : q < n.length
   ·obtain ⟨g, o, rfl, -, hc⟩ := name_at hN hlt
    have hc := below_cell hc hbw
    have hsx := hsz n[q] (List.getElem_mem hlt)
    obtain ⟨x, hx⟩ : ∃ x, n[q] = x := ⟨_, rfl⟩
    have HX : Hid (n[q] = x) := hx
    rw [hx] at hc hsx
    have c64 := tmb_c x hsx wr
    clear hN hx hsz hx0 hW0
    cases ht : tg x with
    | true =>
     rw [ht] at c64
     have hkey : keyOf Tryz.prog 9 (.string x) = some (key x) := keyOf_string_mk Tryz.underlying9 (by unfold maxLen; omega)
     have hval : plainElem (H := Unit) Tryz.prog 3 (.int .i64 (q : Int)) = some (.lit (.int .i64 (q : Int)), []) := plainElem_int Tryz.underlying3 (Go.WalkArith.wf_i64 (by omega))
     go_wp2_with (first
      | (go_at_call 101; refine c64.mono ?_; rintro e w1 ⟨rfl, b1⟩; have hown1 := hown.kept (row := none) ⟨b1.os, b1.tape, b1.output, b1.size, fun k hk _ => b1.block k hk⟩ (by simp))
      | (at_mapUpdate; refine wpList_mapUpdate_own _ rfl _ _ _ 263 rfl 9 3 law9 Tryz.underlying263 (plainElem (H := Unit) Tryz.prog 3) (w.heap.size + 1) q _ rfl hown1 (by unfold maxLen; omega) _ _ _ rfl rfl hkey _ [] hval ?_; intro w2 hown2 hgrow2)
      | fail)
     have HD2 : Hid (Dat (D.put (key x) (.lit (.int .i64 (q : Int)))) (n.take (q + 1)) ∧ (n.take (q + 1)).all tg = true) := by
      have e : n.take (q + 1) = n.take q ++ [x] := by rw [List.take_add_one, List.getElem?_eq_getElem hlt, HX.out]; rfl
      rw [e]
      exact ⟨HD.out.1.snoc x _, by rw [List.all_append, HD.out.2]; simp [ht]⟩
     have hb2 : Below (w.heap.size + 1) W0 w2 := (hb.trans (b1.mono (by have := hb.size; omega))).grown hgrow2 (by have := hb.size; have := b1.size; omega) (fun k hk => by cases hk; exact Nat.le_refl _)
     go_roundw
     case rel => exact ⟨q + 1, _, by omega, by go_num, hown2, HD2.out.1, HD2.out.2, hb2⟩
     case measure => simp only [intOf]; omega
    | false =>
     rw [ht] at c64
     have hR : R = false := by
      rw [← HH.out]
      have : n.all tg = false := by
       rw [← Bool.not_eq_true, List.all_eq_true]
       intro h
       have := h n[q] (List.getElem_mem hlt)
       rw [HX.out, ht] at this
       cases this
      rw [this]
      rfl
     subst hR
     go_wp2_with (first | (go_at_call 101; refine c64.mono ?_; rintro e w1 ⟨rfl, b1⟩))
     go_ret
     exact ⟨rfl, nx hbw b1⟩
   ·have hlt' : decide ((q : Int) < (n.length : Int)) = false := by simp; omega
    obtain rfl : q = n.length := by omega
    have e : n.take n.length = n := List.take_of_length_le (Nat.le_refl _)
    have hDat := HD.out.1
    have hall := HD.out.2
    rw [e] at hDat hall
    have hR : ((Maps.size D : Int) == (n.length : Int)) = R := by
     rw [← HH.out, hall, Bool.true_and]
     by_cases hs : Maps.size D = n.length
     ·rw [nd_iff.2 (hDat.eq.1 hs), hs]
      simp
     ·have : nd n = false := by
       rw [← Bool.not_eq_true, nd_iff]
       exact fun h => hs (hDat.eq.2 h)
      rw [this]
      simp; omega
    clear hDat hall HD e hN hx0 hW0 HH hsz
    go_wp2_with (first
     | (at_len; refine wpList_len_own _ rfl _ 263 rfl 9 3 Tryz.underlying263 (plainElem (H := Unit) Tryz.prog 3) (w.heap.size + 1) n.length _ rfl hown ?_)
     | fail)
    go_ret
    exact ⟨rfl, hbw⟩
 ·have e : nmb n ll = false := by simp [nmb, hne]
  rw [e]
  clear e
  have hne' : ((n.length : Int) != (ll : Int)) = true := by simp; omega
  go_enter Tryz.func174, Tryz.ntmps174
  go_wp2_with fail
  go_ret
  exact ⟨rfl, (Below.refl _ w).alloc (Nat.le_refl _) _⟩
end Go.Proofs.YthonejomogkjjaaGreatDoor.Names

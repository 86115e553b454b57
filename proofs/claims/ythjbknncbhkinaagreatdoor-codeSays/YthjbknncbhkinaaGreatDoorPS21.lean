import Derived.Laws.BitsAllLaws
import Derived.LoopTactic
import Derived.WalkSpells
import Derived.Test.YthjbknncbhkinaaGreatDoorPS00
import Derived.Test.YthjbknncbhkinaaGreatDoorPS02
open Go.Proofs.Tryz
set_option linter.unusedVariables false
set_option maxHeartbeats 3200000
namespace Go.Proofs.YthjbknncbhkinaaGreatDoor.USmall
open Go.ChangeShapes Go.WideShapes Go.ChangeAt Go.RowKit UBase
theorem letter_c (c : Int) (n : Nat) (h : c = n) (w : World) :
  Calls prog 151 #[.int .u8 c] w fun r w' => r = .returned (.bool (let' n)) /\ w' = w := by
 subst h
 go_enter func151, ntmps151
 go_wp2
 ·have h : (97 : Int) <= n := by assumption
  go_ret
  have e : let' n = decide ((n : Int) <= 122) := by unfold let'; simp only [decide_eq_true (show 97 <= n by omega), Bool.true_and]; exact decide_eq_decide.mpr (by omega)
  rw [e]
  exact ⟨rfl, rfl⟩
 ·have h : (n : Int) < 97 := by assumption
  go_ret
  have e : let' n = false := by unfold let'; simp; omega
  rw [e]
  exact ⟨rfl, rfl⟩
theorem digit_c (c : Int) (n : Nat) (h : c = n) (w : World) :
  Calls prog 152 #[.int .u8 c] w fun r w' => r = .returned (.bool (dig n)) /\ w' = w := by
 subst h
 go_enter func152, ntmps152
 go_wp2
 ·have h : (48 : Int) <= n := by assumption
  go_ret
  have e : dig n = decide ((n : Int) <= 57) := by unfold dig; simp only [decide_eq_true (show 48 <= n by omega), Bool.true_and]; exact decide_eq_decide.mpr (by omega)
  rw [e]
  exact ⟨rfl, rfl⟩
 ·have h : (n : Int) < 48 := by assumption
  go_ret
  have e : dig n = false := by unfold dig; simp; omega
  rw [e]
  exact ⟨rfl, rfl⟩
theorem at_list (s : ByteArray) (i : Nat) : at' s i = ((s.data.toList)[i]?.getD 0).toNat := by
 by_cases h : i < s.size
 ·have hl : i < s.data.toList.length := by rw [Array.length_toList]; exact h
  rw [at_get s i h, List.getElem?_eq_getElem hl, Array.getElem_toList]
  rfl
 ·have hl : s.data.toList.length <= i := by rw [Array.length_toList]; exact Nat.le_of_not_lt h
  rw [at_out s i h, List.getElem?_eq_none hl]
  rfl
theorem rep_list (d : ByteArray) (h3 : 3 <= d.size) : ((d.extract 0 3).toList == [239, 191, 189]) = rep d 0 := by
 rw [ByteArray.toList_eq, ByteArray.data_extract, Array.toList_extract]
 unfold rep
 rw [at_list d 0, at_list d (0 + 1), at_list d (0 + 2)]
 have hl : d.data.toList.length = d.size := Array.length_toList
 generalize d.data.toList = L at *
 match L, hl with
 | x :: y :: z :: r, _ =>
  rw [Bool.eq_iff_iff]
  simp [<- UInt8.toNat_inj]
 | [], hl => simp at hl; omega
 | [_], hl => simp at hl; omega
 | [_, _], hl => simp at hl; omega
theorem pre_long (d : ByteArray) (h : d.size <= 9223372036854775807) (h3 : 3 <= d.size) (w : World) :
  Calls prog 144 #[.string d, .string ⟨#[239, 191, 189]⟩] w fun r w' => r = .returned (.bool (rep d 0)) /\ w' = w := by
 rw [<- rep_list d h3]
 go_enter func144, ntmps144
 go_wp2
 go_ret
 exact ⟨rfl, rfl⟩
theorem pre_short (d : ByteArray) (h3 : ¬ 3 <= d.size) (w : World) :
  Calls prog 144 #[.string d, .string ⟨#[239, 191, 189]⟩] w fun r w' => r = .returned (.bool (rep d 0)) /\ w' = w := by
 have e : rep d 0 = false := by unfold rep; rw [at_out d (0 + 2) (by omega)]; simp
 rw [e]
 go_enter func144, ntmps144
 go_wp2
 go_ret
 exact ⟨rfl, rfl⟩
theorem pre_c (d : ByteArray) (h : d.size <= 9223372036854775807) (w : World) :
  Calls prog 94 #[.string d] w fun r w' => r = .returned (.bool (rep d 0)) /\ w' = w := by
 have c26 : ∀ w, Calls prog 144 #[.string d, .string ⟨#[239, 191, 189]⟩] w fun r w' => r = .returned (.bool (rep d 0)) /\ w' = w := fun w => by
  by_cases h3 : 3 <= d.size
  ·exact pre_long d h h3 w
  ·exact pre_short d h3 w
 have c23 : ∀ w, Calls prog 119 #[.string d, .string ⟨#[239, 191, 189]⟩] w fun r w' => r = .returned (.bool (rep d 0)) /\ w' = w := fun w => by
  go_enter func119, ntmps119
  go_wp2_with (first | (go_at_call 144; refine (c26 _).mono ?_; rintro e w' ⟨rfl, rfl⟩))
  go_ret
  exact ⟨rfl, rfl⟩
 go_enter func94, ntmps94
 go_wp2_with (first | (go_at_call 119; refine (c23 _).mono ?_; rintro e w' ⟨rfl, rfl⟩))
 go_ret
 exact ⟨rfl, rfl⟩
end Go.Proofs.YthjbknncbhkinaaGreatDoor.USmall
namespace Go.Proofs.YthjbknncbhkinaaGreatDoor.UValid
open Go.ChangeShapes Go.WideShapes Go.ChangeAt Go.RowKit UBase
theorem verr_none {s : ByteArray} (h : bad s 0 = none) : vat s = 0 /\ verr s = 0 := by unfold vat verr; rw [h]; simp
theorem verr_some {s : ByteArray} {i : Nat} (h : bad s 0 = some i) : vat s = i /\ verr s = 300 := by unfold vat verr; rw [h]; simp
end Go.Proofs.YthjbknncbhkinaaGreatDoor.UValid
namespace Go.Proofs.YthjbknncbhkinaaGreatDoor.UOwn
open Go.ChangeShapes Go.WideShapes Go.ChangeAt Go.RowKit UBase USmall UValid
theorem at_extract (s : ByteArray) (i n k : Nat) (hn : n <= s.size) (hk : i + k < n) : at' (s.extract i n) k = at' s (i + k) := by
 rw [at_list, at_list, ByteArray.data_extract, Array.toList_extract, List.extract_eq_take_drop, List.getElem?_take, List.getElem?_drop, if_pos (by omega)]
theorem at_behind (s : ByteArray) (i k : Nat) : at' (s.extract i s.size) k = at' s (i + k) := by
 by_cases h : i + k < s.size
 ·exact at_extract s i s.size k (Nat.le_refl _) h
 ·rw [at_out s _ h, at_out _ k (by simp; omega)]
theorem rep_behind (s : ByteArray) (i : Nat) : rep (s.extract i s.size) 0 = rep s i := by
 unfold rep
 rw [at_behind, at_behind, at_behind]
 rfl
theorem valid_c (s : ByteArray) (hs : s.size <= 9223372036854775807) (w : World) :
  Calls prog 72 #[.string s] w fun r w' => r = .returned (.tuple #[.int .i64 (vat s), .int .i64 (verr s)]) /\ ∃ p, w' = w.iter s p := by
 go_enter func72, ntmps72
 go_wp2
 go_loopw [] (fun wr => ∃ n : Nat, n <= s.size /\ wr = w.iter s n /\ bad s 0 = bad s n) (fun wr => s.size - wr.iterPos w.heap.size)
 case atStart => exact ⟨0, by omega, rfl, rfl⟩
 case round =>
  obtain ⟨n, hn, rfl, hb⟩ := hrel
  have HB : Hid (bad s 0 = bad s n) := hb
  clear hb
  by_cases hlt : n < s.size
  ·have hnx : ∀ ty, (Instr.next (.pointer (some ⟨w.heap.size, 0, none⟩)) true ty).run prog (w.iter s n) = _ := fun ty => run_next_any w s n ty hlt
   have hd := dec_len s n
   obtain ⟨hd1, hd2, _⟩ := hd
   have hi := len_in hlt
   have cp : ∀ w, Calls prog 94 #[.string (s.extract n s.size)] w fun r w' => r = .returned (.bool (rep s n)) /\ w' = w := fun w => by
    rw [<- rep_behind]
    exact pre_c _ (by simp; omega) w
   by_cases hz : len s n = 0
   ·obtain ⟨e1, e2⟩ := hd1.mp hz
    go_wp2_with (first | (go_at_call 94; refine (cp _).mono ?_; rintro e w' ⟨rfl, rfl⟩))
    go_ret2
    have e := verr_some (HB.out.trans (bad_here hlt hz))
    rw [e.1, e.2]
    exact ⟨rfl, _, rfl⟩
   ·have hw := hd2 hz
    by_cases hf : (Utf8.decode s n).1 = 65533
    ·have e2 : rep s n = true := by
      cases h : rep s n with
      | true => rfl
      | false => exact absurd (hd1.mpr ⟨hf, h⟩) hz
     go_wp2_with (first | (go_at_call 94; refine (cp _).mono ?_; rintro e w' ⟨rfl, rfl⟩))
     go_roundw
     case rel => exact ⟨n + len s n, hi, rfl, HB.out.trans (bad_step hlt hz)⟩
     case measure => simp; omega
    ·have hf' : (((Utf8.decode s n).1 : Int) == 65533) = false := by simp; omega
     go_wp2
     go_roundw
     case rel => exact ⟨n + len s n, hi, rfl, HB.out.trans (bad_step hlt hz)⟩
     case measure => simp; omega
  ·have hnx : ∀ ty, (Instr.next (.pointer (some ⟨w.heap.size, 0, none⟩)) true ty).run prog (w.iter s n) = _ := fun ty => run_next_end w s n ty hlt
   go_wp2
   go_ret2
   have e := verr_none (HB.out.trans (bad_end hlt))
   rw [e.1, e.2]
   exact ⟨rfl, _, rfl⟩
end Go.Proofs.YthjbknncbhkinaaGreatDoor.UOwn
namespace Go.Proofs.YthjbknncbhkinaaGreatDoor.UWord
open Go.ChangeShapes Go.WideShapes Go.ChangeAt Go.RowKit UBase USmall
theorem size_empty {s : ByteArray} (h : s.size = 0) : s = ByteArray.empty := by
 apply ByteArray.ext
 apply Array.eq_empty_of_size_eq_zero
 exact h
theorem word_of {s : ByteArray} {j : Nat} (h1 : 0 < s.size) (h2 : s.size <= 32) (h3 : let' (at' s 0) = true) (h4 : ∀ i, i < s.size -> sign j (at' s i) = true) : word s j = true := by
 unfold word
 simp only [decide_eq_true h1, decide_eq_true h2, h3, Bool.true_and]
 exact decide_eq_true h4
theorem word_not {s : ByteArray} {j : Nat} (h : ¬ (0 < s.size /\ s.size <= 32 /\ let' (at' s 0) = true)) : word s j = false := by
 cases e : word s j with
 | false => rfl
 | true =>
  unfold word at e
  simp only [Bool.and_eq_true, decide_eq_true_eq] at e
  exact absurd ⟨e.1, e.2.1, e.2.2.1⟩ h
theorem word_bad {s : ByteArray} {j i : Nat} (hi : i < s.size) (h : sign j (at' s i) = false) : word s j = false := by
 cases e : word s j with
 | false => rfl
 | true =>
  unfold word at e
  simp only [Bool.and_eq_true, decide_eq_true_eq] at e
  rw [e.2.2.2 i hi] at h
  cases h
theorem sign_let {j c : Nat} (h : let' c = true) : sign j c = true := by unfold sign; rw [h]; rfl
theorem sign_dig {j c : Nat} (h : dig c = true) : sign j c = true := by unfold sign; rw [h]; simp
theorem sign_joint {j c : Nat} (h : ((c : Int) != (j : Int)) = false) : sign j c = true := by
 have e : c = j := by simp at h; omega
 unfold sign
 rw [decide_eq_true e]
 simp
theorem sign_none {j c : Nat} (h1 : ¬ let' c = true) (h2 : ¬ dig c = true) (h : ((c : Int) != (j : Int)) = true) : sign j c = false := by
 have e : ¬ c = j := by simp at h; omega
 unfold sign
 simp [h1, h2, e]
theorem own_empty (j : Int) (w : World) :
  Calls prog 143 #[.string ByteArray.empty, .int .u8 j] w fun r w' => r = .returned (.bool false) /\ w' = w := by
 go_enter func143, ntmps143
 go_wp2
 go_ret
 exact ⟨rfl, rfl⟩
theorem own_long (s : ByteArray) (h : 32 < s.size) (hs : s.size <= 9223372036854775807) (j : Int) (w : World) :
  Calls prog 143 #[.string s, .int .u8 j] w fun r w' => r = .returned (.bool false) /\ w' = w := by
 have h0 : 0 < s.size := by omega
 have he : ¬ s = ByteArray.empty := fun h => by subst h; revert h0; decide
 have he2 : ((s.size : Int) == 0) = false := by simp; omega
 go_enter func143, ntmps143
 go_wp2
 go_ret
 exact ⟨rfl, rfl⟩
theorem own_first (s : ByteArray) (h0 : 0 < s.size) (h : s.size <= 32) (hl : let' s[0].toNat = false) (j : Int) (w : World) :
  Calls prog 143 #[.string s, .int .u8 j] w fun r w' => r = .returned (.bool false) /\ w' = w := by
 have he : ¬ s = ByteArray.empty := fun h => by subst h; revert h0; decide
 have he2 : ((s.size : Int) == 0) = false := by simp; omega
 have he3 : decide ((32 : Int) < (s.size : Int)) = false := by simp; omega
 go_enter func143, ntmps143
 go_wp2_with (first | (go_at_call 151; refine (letter_c _ (s[0].toNat) rfl _).mono ?_; rintro e w' ⟨rfl, rfl⟩))
 go_ret
 exact ⟨rfl, rfl⟩
theorem own_go (s : ByteArray) (h0 : 0 < s.size) (h : s.size <= 32) (hl : let' s[0].toNat = true) (j : Nat) (w : World) :
  Calls prog 143 #[.string s, .int .u8 j] w fun r w' => r = .returned (.bool (word s j)) /\ w' = w := by
 have he : ¬ s = ByteArray.empty := fun h => by subst h; revert h0; decide
 have he2 : ((s.size : Int) == 0) = false := by simp; omega
 have he3 : decide ((32 : Int) < (s.size : Int)) = false := by simp; omega
 go_enter func143, ntmps143
 go_wp2_with (first | (go_at_call 151; refine (letter_c _ (s[0].toNat) rfl _).mono ?_; rintro e w' ⟨rfl, rfl⟩))
 go_loop [22] (fun i => ∃ n : Nat, n <= s.size /\ i = .int .i64 n /\ ∀ i, i < n -> sign j (at' s i) = true) (fun i => s.size - (intOf i).toNat)
 case atStart => exact ⟨0, by omega, rfl, fun i hi => by omega⟩
 case round =>
  obtain ⟨n, hn, rfl, ha⟩ := hrel
  have HA : Hid (∀ i, i < n -> sign j (at' s i) = true) := ha
  clear ha
  by_cases hlt : n < s.size
  ·have E : Hid (at' s n = (s[n]'hlt).toNat) := at_get s n hlt
   go_wp2_with (first
    | (go_at_call 151; refine (letter_c _ (s[n].toNat) rfl _).mono ?_; rintro e w' ⟨rfl, rfl⟩)
    | (go_at_call 152; refine (digit_c _ (s[n].toNat) rfl _).mono ?_; rintro e w' ⟨rfl, rfl⟩))
   ·have g : sign j s[n].toNat = true := sign_let (by assumption)
    go_round
    case rel =>
     refine ⟨n + 1, by omega, by go_num, fun i hi => ?_⟩
     by_cases c : i < n
     ·exact HA.out i c
     ·obtain rfl : i = n := by omega
      rw [E.out]
      exact g
    case measure => simp only [intOf]; omega
   ·have g : sign j s[n].toNat = true := sign_dig (by assumption)
    go_round
    case rel =>
     refine ⟨n + 1, by omega, by go_num, fun i hi => ?_⟩
     by_cases c : i < n
     ·exact HA.out i c
     ·obtain rfl : i = n := by omega
      rw [E.out]
      exact g
    case measure => simp only [intOf]; omega
   ·have g : sign j s[n].toNat = false := sign_none (by assumption) (by assumption) (by assumption)
    go_ret
    have e : word s j = false := word_bad hlt (by rw [E.out]; exact g)
    rw [e]
    exact ⟨rfl, rfl⟩
   ·have g : sign j s[n].toNat = true := sign_joint (by assumption)
    go_round
    case rel =>
     refine ⟨n + 1, by omega, by go_num, fun i hi => ?_⟩
     by_cases c : i < n
     ·exact HA.out i c
     ·obtain rfl : i = n := by omega
      rw [E.out]
      exact g
    case measure => simp only [intOf]; omega
  ·go_wp2
   go_ret
   have e : word s j = true := word_of h0 h (by rw [at_get s 0 h0]; exact hl) (fun i hi => HA.out i (by omega))
   rw [e]
   exact ⟨rfl, rfl⟩
theorem own_c (s : ByteArray) (hs : s.size <= 9223372036854775807) (j : Nat) (w : World) :
  Calls prog 143 #[.string s, .int .u8 j] w fun r w' => r = .returned (.bool (word s j)) /\ w' = w := by
 by_cases h0 : 0 < s.size
 ·by_cases h : s.size <= 32
  ·have e := at_get s 0 h0
   cases hl : let' s[0].toNat with
   | true => exact own_go s h0 h hl j w
   | false =>
    rw [word_not (by rw [e, hl]; simp)]
    exact own_first s h0 h hl j w
  ·rw [word_not (by omega)]
   exact own_long s (by omega) hs j w
 ·rw [word_not (by omega)]
  obtain rfl := size_empty (by omega : s.size = 0)
  exact own_empty j w
end Go.Proofs.YthjbknncbhkinaaGreatDoor.UWord
namespace Go.Proofs.YthjbknncbhkinaaGreatDoor.SNm
open Go.RowKit UBase
theorem Name_c (s : ByteArray) (hs : s.size <= 9223372036854775807) (w : World) :
  Calls prog 118 #[.string s] w fun r w' => r = .returned (.bool (UBase.word s 95)) /\ w' = w := by
 have c1 := UWord.own_c s hs 95 w
 go_enter func118, ntmps118
 go_wp2_with (first | (go_at_call 143; refine c1.mono ?_; rintro e w' ⟨rfl, rfl⟩))
 go_ret
 exact ⟨rfl, rfl⟩
end Go.Proofs.YthjbknncbhkinaaGreatDoor.SNm
namespace Go.Proofs.YthjbknncbhkinaaGreatDoor.STx
open Go.RowKit UBase UValid UOwn
def tg (s : ByteArray) : Bool := decide (s.size <= 4096) && (verr s == 0)
theorem iter_below (w : World) (s : ByteArray) (p : Nat) : Below w.heap.size w (w.iter s p) := (Below.refl _ w).alloc (Nat.le_refl _) _
theorem verr_cases (s : ByteArray) : verr s = 0 \/ verr s = 300 := by
 cases h : bad s 0 with
 | none => exact .inl (verr_none h).2
 | some i => exact .inr (verr_some h).2
theorem tmb_c (s : ByteArray) (hs : s.size <= 140737488351232) (w : World) :
  Calls prog 50 #[.string s] w fun r w' => r = .returned (.bool (tg s)) /\ Below w.heap.size w w' := by
 have c71 := valid_c s (by omega) w
 by_cases h : s.size <= 4096
 ·have e : tg s = (verr s == 0) := by simp [tg, h]
  rw [e]
  have hv := verr_cases s
  generalize verr s = x at *
  generalize vat s = y at *
  have h' : decide ((4096 : Int) < (s.size : Int)) = false := decide_eq_false (by omega)
  clear e
  rcases hv with rfl | rfl
  ·go_enter func50, ntmps50
   go_wp2_with (first | (go_at_call 72; refine c71.mono ?_; rintro e w' ⟨rfl, p, rfl⟩))
   go_ret
   exact ⟨rfl, iter_below _ _ _⟩
  ·go_enter func50, ntmps50
   go_wp2_with (first | (go_at_call 72; refine c71.mono ?_; rintro e w' ⟨rfl, p, rfl⟩))
   go_ret
   exact ⟨rfl, iter_below _ _ _⟩
 ·have e : tg s = false := by simp [tg, h]
  rw [e]
  have h' : decide ((4096 : Int) < (s.size : Int)) = true := decide_eq_true (by omega)
  clear c71 e
  go_enter func50, ntmps50
  go_wp2_with fail
  go_ret
  exact ⟨rfl, Below.refl _ _⟩
end Go.Proofs.YthjbknncbhkinaaGreatDoor.STx
namespace Go.Proofs.YthjbknncbhkinaaGreatDoor.Pure
open Go.RowKit UBase UValid UOwn
def tg (s : ByteArray) : Bool := decide (s.size <= 4096) && (verr s == 0)
theorem iter_below (w : World) (s : ByteArray) (p : Nat) : Below w.heap.size w (w.iter s p) := (Below.refl _ w).alloc (Nat.le_refl _) _
theorem verr_cases (s : ByteArray) : verr s = 0 \/ verr s = 300 := by
 cases h : bad s 0 with
 | none => exact .inl (verr_none h).2
 | some i => exact .inr (verr_some h).2
theorem tmb_c (s : ByteArray) (hs : s.size <= 140737488351232) (w : World) :
  Calls prog 50 #[.string s] w fun r w' => r = .returned (.bool (tg s)) /\ Below w.heap.size w w' := by
 have c71 := valid_c s (by omega) w
 by_cases h : s.size <= 4096
 ·have e : tg s = (verr s == 0) := by simp [tg, h]
  rw [e]
  have hv := verr_cases s
  generalize verr s = x at *
  generalize vat s = y at *
  have h' : decide ((4096 : Int) < (s.size : Int)) = false := decide_eq_false (by omega)
  clear e
  rcases hv with rfl | rfl
  ·go_enter func50, ntmps50
   go_wp2_with (first | (go_at_call 72; refine c71.mono ?_; rintro e w' ⟨rfl, p, rfl⟩))
   go_ret
   exact ⟨rfl, iter_below _ _ _⟩
  ·go_enter func50, ntmps50
   go_wp2_with (first | (go_at_call 72; refine c71.mono ?_; rintro e w' ⟨rfl, p, rfl⟩))
   go_ret
   exact ⟨rfl, iter_below _ _ _⟩
 ·have e : tg s = false := by simp [tg, h]
  rw [e]
  have h' : decide ((4096 : Int) < (s.size : Int)) = true := decide_eq_true (by omega)
  clear c71 e
  go_enter func50, ntmps50
  go_wp2_with fail
  go_ret
  exact ⟨rfl, Below.refl _ _⟩
def pu (k : Int) (b : Bool) (i : Int) (s : ByteArray) (n1 n2 : Nat) : Bool :=
 (decide (k = 2) || !b) && (decide (k = 3) || decide (i = 0)) && (decide (k = 4) || s.toList.isEmpty) && (decide (k = 5 \/ k = 6) || decide (n2 = 0)) && (decide (k = 6) || decide (n1 = 0))
theorem pure_c (k : Int) (b : Bool) (i : Int) (s : ByteArray) (a1 a2 : Option Addr) (n1 n2 c1 c2 : Nat) (w : World) :
  Calls prog 128 #[.agg #[.int .i64 k, .bool b, .int .i64 i, .string s, .slice a1 n1 c1, .slice a2 n2 c2]] w fun r w' => r = .returned (.bool (pu k b i s n1 n2)) /\ Below w.heap.size w w' := by
 by_cases h2 : k = 2
 ·subst h2
  by_cases hi : ¬ i = 0
  ·have e : pu 2 b i s n1 n2 = false := by simp [pu, hi]
   rw [e]
   have hi' : (i == 0) = false := by simp [hi]
   clear e
   go_enter func128, ntmps128
   go_wp2_with fail
   go_ret
   exact ⟨rfl, (Below.refl _ w).alloc (Nat.le_refl _) _⟩
  have hi0 : i = 0 := Decidable.of_not_not hi
  subst hi0
  clear hi
  cases hs : s.toList.isEmpty with
  | false =>
   have e : pu 2 b 0 s n1 n2 = false := by simp only [pu, hs]; simp
   rw [e]
   clear e
   go_enter func128, ntmps128
   go_wp2_with fail
   go_ret
   exact ⟨rfl, (Below.refl _ w).alloc (Nat.le_refl _) _⟩
  | true =>
   by_cases hl : ¬ n2 = 0
   ·have e : pu 2 b 0 s n1 n2 = false := by simp only [pu, hs]; simp [hl]
    rw [e]
    have hl' : ((n2 : Int) == 0) = false := by simp [hl]
    clear e
    go_enter func128, ntmps128
    go_wp2_with fail
    go_ret
    exact ⟨rfl, (Below.refl _ w).alloc (Nat.le_refl _) _⟩
   have hl0 : n2 = 0 := Decidable.of_not_not hl
   subst hl0
   clear hl
   by_cases hn : ¬ n1 = 0
   ·have e : pu 2 b 0 s n1 0 = false := by simp only [pu, hs]; simp [hn]
    rw [e]
    have hn' : ((n1 : Int) == 0) = false := by simp [hn]
    clear e
    go_enter func128, ntmps128
    go_wp2_with fail
    go_ret
    exact ⟨rfl, (Below.refl _ w).alloc (Nat.le_refl _) _⟩
   have hn0 : n1 = 0 := Decidable.of_not_not hn
   subst hn0
   clear hn
   have e : pu 2 b 0 s 0 0 = true := by simp only [pu, hs]; simp
   rw [e]
   clear e
   go_enter func128, ntmps128
   go_wp2_with fail
   go_ret
   exact ⟨rfl, (Below.refl _ w).alloc (Nat.le_refl _) _⟩
 by_cases h3 : k = 3
 ·subst h3
  cases b with
  | true =>
   have e : pu 3 true i s n1 n2 = false := by simp [pu]
   rw [e]
   clear e
   go_enter func128, ntmps128
   go_wp2_with fail
   go_ret
   exact ⟨rfl, (Below.refl _ w).alloc (Nat.le_refl _) _⟩
  | false =>
   cases hs : s.toList.isEmpty with
   | false =>
    have e : pu 3 false i s n1 n2 = false := by simp only [pu, hs]; simp
    rw [e]
    clear e
    go_enter func128, ntmps128
    go_wp2_with fail
    go_ret
    exact ⟨rfl, (Below.refl _ w).alloc (Nat.le_refl _) _⟩
   | true =>
    by_cases hl : ¬ n2 = 0
    ·have e : pu 3 false i s n1 n2 = false := by simp only [pu, hs]; simp [hl]
     rw [e]
     have hl' : ((n2 : Int) == 0) = false := by simp [hl]
     clear e
     go_enter func128, ntmps128
     go_wp2_with fail
     go_ret
     exact ⟨rfl, (Below.refl _ w).alloc (Nat.le_refl _) _⟩
    have hl0 : n2 = 0 := Decidable.of_not_not hl
    subst hl0
    clear hl
    by_cases hn : ¬ n1 = 0
    ·have e : pu 3 false i s n1 0 = false := by simp only [pu, hs]; simp [hn]
     rw [e]
     have hn' : ((n1 : Int) == 0) = false := by simp [hn]
     clear e
     go_enter func128, ntmps128
     go_wp2_with fail
     go_ret
     exact ⟨rfl, (Below.refl _ w).alloc (Nat.le_refl _) _⟩
    have hn0 : n1 = 0 := Decidable.of_not_not hn
    subst hn0
    clear hn
    have e : pu 3 false i s 0 0 = true := by simp only [pu, hs]; simp
    rw [e]
    clear e
    go_enter func128, ntmps128
    go_wp2_with fail
    go_ret
    exact ⟨rfl, (Below.refl _ w).alloc (Nat.le_refl _) _⟩
 by_cases h4 : k = 4
 ·subst h4
  cases b with
  | true =>
   have e : pu 4 true i s n1 n2 = false := by simp [pu]
   rw [e]
   clear e
   go_enter func128, ntmps128
   go_wp2_with fail
   go_ret
   exact ⟨rfl, (Below.refl _ w).alloc (Nat.le_refl _) _⟩
  | false =>
   by_cases hi : ¬ i = 0
   ·have e : pu 4 false i s n1 n2 = false := by simp [pu, hi]
    rw [e]
    have hi' : (i == 0) = false := by simp [hi]
    clear e
    go_enter func128, ntmps128
    go_wp2_with fail
    go_ret
    exact ⟨rfl, (Below.refl _ w).alloc (Nat.le_refl _) _⟩
   have hi0 : i = 0 := Decidable.of_not_not hi
   subst hi0
   clear hi
   by_cases hl : ¬ n2 = 0
   ·have e : pu 4 false 0 s n1 n2 = false := by simp only [pu]; simp [hl]
    rw [e]
    have hl' : ((n2 : Int) == 0) = false := by simp [hl]
    clear e
    go_enter func128, ntmps128
    go_wp2_with fail
    go_ret
    exact ⟨rfl, (Below.refl _ w).alloc (Nat.le_refl _) _⟩
   have hl0 : n2 = 0 := Decidable.of_not_not hl
   subst hl0
   clear hl
   by_cases hn : ¬ n1 = 0
   ·have e : pu 4 false 0 s n1 0 = false := by simp only [pu]; simp [hn]
    rw [e]
    have hn' : ((n1 : Int) == 0) = false := by simp [hn]
    clear e
    go_enter func128, ntmps128
    go_wp2_with fail
    go_ret
    exact ⟨rfl, (Below.refl _ w).alloc (Nat.le_refl _) _⟩
   have hn0 : n1 = 0 := Decidable.of_not_not hn
   subst hn0
   clear hn
   have e : pu 4 false 0 s 0 0 = true := by simp only [pu]; simp
   rw [e]
   clear e
   go_enter func128, ntmps128
   go_wp2_with fail
   go_ret
   exact ⟨rfl, (Below.refl _ w).alloc (Nat.le_refl _) _⟩
 by_cases h5 : k = 5
 ·subst h5
  cases b with
  | true =>
   have e : pu 5 true i s n1 n2 = false := by simp [pu]
   rw [e]
   clear e
   go_enter func128, ntmps128
   go_wp2_with fail
   go_ret
   exact ⟨rfl, (Below.refl _ w).alloc (Nat.le_refl _) _⟩
  | false =>
   by_cases hi : ¬ i = 0
   ·have e : pu 5 false i s n1 n2 = false := by simp [pu, hi]
    rw [e]
    have hi' : (i == 0) = false := by simp [hi]
    clear e
    go_enter func128, ntmps128
    go_wp2_with fail
    go_ret
    exact ⟨rfl, (Below.refl _ w).alloc (Nat.le_refl _) _⟩
   have hi0 : i = 0 := Decidable.of_not_not hi
   subst hi0
   clear hi
   cases hs : s.toList.isEmpty with
   | false =>
    have e : pu 5 false 0 s n1 n2 = false := by simp only [pu, hs]; simp
    rw [e]
    clear e
    go_enter func128, ntmps128
    go_wp2_with fail
    go_ret
    exact ⟨rfl, (Below.refl _ w).alloc (Nat.le_refl _) _⟩
   | true =>
    by_cases hn : ¬ n1 = 0
    ·have e : pu 5 false 0 s n1 n2 = false := by simp only [pu, hs]; simp [hn]
     rw [e]
     have hn' : ((n1 : Int) == 0) = false := by simp [hn]
     clear e
     go_enter func128, ntmps128
     go_wp2_with fail
     go_ret
     exact ⟨rfl, (Below.refl _ w).alloc (Nat.le_refl _) _⟩
    have hn0 : n1 = 0 := Decidable.of_not_not hn
    subst hn0
    clear hn
    have e : pu 5 false 0 s 0 n2 = true := by simp only [pu, hs]; simp
    rw [e]
    clear e
    go_enter func128, ntmps128
    go_wp2_with fail
    go_ret
    exact ⟨rfl, (Below.refl _ w).alloc (Nat.le_refl _) _⟩
 by_cases h6 : k = 6
 ·subst h6
  cases b with
  | true =>
   have e : pu 6 true i s n1 n2 = false := by simp [pu]
   rw [e]
   clear e
   go_enter func128, ntmps128
   go_wp2_with fail
   go_ret
   exact ⟨rfl, (Below.refl _ w).alloc (Nat.le_refl _) _⟩
  | false =>
   by_cases hi : ¬ i = 0
   ·have e : pu 6 false i s n1 n2 = false := by simp [pu, hi]
    rw [e]
    have hi' : (i == 0) = false := by simp [hi]
    clear e
    go_enter func128, ntmps128
    go_wp2_with fail
    go_ret
    exact ⟨rfl, (Below.refl _ w).alloc (Nat.le_refl _) _⟩
   have hi0 : i = 0 := Decidable.of_not_not hi
   subst hi0
   clear hi
   cases hs : s.toList.isEmpty with
   | false =>
    have e : pu 6 false 0 s n1 n2 = false := by simp only [pu, hs]; simp
    rw [e]
    clear e
    go_enter func128, ntmps128
    go_wp2_with fail
    go_ret
    exact ⟨rfl, (Below.refl _ w).alloc (Nat.le_refl _) _⟩
   | true =>
    have e : pu 6 false 0 s n1 n2 = true := by simp only [pu, hs]; simp
    rw [e]
    clear e
    go_enter func128, ntmps128
    go_wp2_with fail
    go_ret
    exact ⟨rfl, (Below.refl _ w).alloc (Nat.le_refl _) _⟩
 have h2' : (k == 2) = false := by simp [h2]
 have h3' : (k == 3) = false := by simp [h3]
 have h4' : (k == 4) = false := by simp [h4]
 have h5' : (k == 5) = false := by simp [h5]
 have h6' : (k == 6) = false := by simp [h6]
 cases b with
 | true =>
  have e : pu k true i s n1 n2 = false := by simp [pu, h2, h3, h4, h5, h6]
  rw [e]
  clear e
  go_enter func128, ntmps128
  go_wp2_with fail
  go_ret
  exact ⟨rfl, (Below.refl _ w).alloc (Nat.le_refl _) _⟩
 | false =>
  by_cases hi : ¬ i = 0
  ·have e : pu k false i s n1 n2 = false := by simp [pu, hi, h2, h3, h4, h5, h6]
   rw [e]
   have hi' : (i == 0) = false := by simp [hi]
   clear e
   go_enter func128, ntmps128
   go_wp2_with fail
   go_ret
   exact ⟨rfl, (Below.refl _ w).alloc (Nat.le_refl _) _⟩
  have hi0 : i = 0 := Decidable.of_not_not hi
  subst hi0
  clear hi
  cases hs : s.toList.isEmpty with
  | false =>
   have e : pu k false 0 s n1 n2 = false := by simp only [pu, hs]; simp [h2, h3, h4, h5, h6]
   rw [e]
   clear e
   go_enter func128, ntmps128
   go_wp2_with fail
   go_ret
   exact ⟨rfl, (Below.refl _ w).alloc (Nat.le_refl _) _⟩
  | true =>
   by_cases hl : ¬ n2 = 0
   ·have e : pu k false 0 s n1 n2 = false := by simp only [pu, hs]; simp [hl, h2, h3, h4, h5, h6]
    rw [e]
    have hl' : ((n2 : Int) == 0) = false := by simp [hl]
    clear e
    go_enter func128, ntmps128
    go_wp2_with fail
    go_ret
    exact ⟨rfl, (Below.refl _ w).alloc (Nat.le_refl _) _⟩
   have hl0 : n2 = 0 := Decidable.of_not_not hl
   subst hl0
   clear hl
   by_cases hn : ¬ n1 = 0
   ·have e : pu k false 0 s n1 0 = false := by simp only [pu, hs]; simp [hn, h2, h3, h4, h5, h6]
    rw [e]
    have hn' : ((n1 : Int) == 0) = false := by simp [hn]
    clear e
    go_enter func128, ntmps128
    go_wp2_with fail
    go_ret
    exact ⟨rfl, (Below.refl _ w).alloc (Nat.le_refl _) _⟩
   have hn0 : n1 = 0 := Decidable.of_not_not hn
   subst hn0
   clear hn
   have e : pu k false 0 s 0 0 = true := by simp only [pu, hs]; simp
   rw [e]
   clear e
   go_enter func128, ntmps128
   go_wp2_with fail
   go_ret
   exact ⟨rfl, (Below.refl _ w).alloc (Nat.le_refl _) _⟩
end Go.Proofs.YthjbknncbhkinaaGreatDoor.Pure

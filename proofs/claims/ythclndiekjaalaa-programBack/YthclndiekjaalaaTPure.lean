/- What of a text, of an attribute and of a tree alone may be; contracts of short.Text, Good, cmp.Compare. -/
import Derived.Test.YthclndiekjaalaaUSmall
import Derived.LoopTactic
import Derived.Test.YthclndiekjaalaaTRow
import Derived.Test.YthclndiekjaalaaUOwn
import Derived.Laws.Cover1
namespace Go.Proofs.Ythclndiekjaalaa.UWord
open Go.ChangeShapes Go.WideShapes Go.ChangeAt Go.RowKit Go.Proofs.Ythclndiekjaalaa.UBase Go.Proofs.Ythclndiekjaalaa.USmall
set_option linter.unusedVariables false

theorem size_empty {s : ByteArray} (h : s.size = 0) : s = ByteArray.empty := by
  apply ByteArray.ext
  apply Array.eq_empty_of_size_eq_zero
  exact h
theorem word_of {s : ByteArray} {j : Nat} (h1 : 0 < s.size) (h2 : s.size ≤ 32) (h3 : let' (at' s 0) = true) (h4 : ∀ i, i < s.size → sign j (at' s i) = true) : word s j = true := by
  unfold word
  simp only [decide_eq_true h1, decide_eq_true h2, h3, Bool.true_and]
  exact decide_eq_true h4
theorem word_not {s : ByteArray} {j : Nat} (h : ¬ (0 < s.size ∧ s.size ≤ 32 ∧ let' (at' s 0) = true)) : word s j = false := by
  cases e : word s j with
  | false => rfl
  | true =>
    unfold word at e
    simp only [Bool.and_eq_true, decide_eq_true_eq] at e
    exact absurd ⟨e.1, e.2.1, e.2.2.1⟩ h
theorem word_bad {s : ByteArray} {j i : Nat} (hi : i < s.size) (h : sign j (at' s i) = false) : word s j = false := by
  cases e : word s j with
  | false => rfl
  | true =>
    unfold word at e
    simp only [Bool.and_eq_true, decide_eq_true_eq] at e
    rw [e.2.2.2 i hi] at h
    cases h
theorem sign_let {j c : Nat} (h : let' c = true) : sign j c = true := by unfold sign; rw [h]; rfl
theorem sign_dig {j c : Nat} (h : dig c = true) : sign j c = true := by unfold sign; rw [h]; simp
theorem sign_joint {j c : Nat} (h : ((c : Int) != (j : Int)) = false) : sign j c = true := by
  have e : c = j := by simp at h; omega
  unfold sign
  rw [decide_eq_true e]
  simp
theorem sign_none {j c : Nat} (h1 : ¬ let' c = true) (h2 : ¬ dig c = true) (h : ((c : Int) != (j : Int)) = true) : sign j c = false := by
  have e : ¬ c = j := by simp at h; omega
  unfold sign
  simp [h1, h2, e]
theorem sign_rng {j c : Nat} (h : (97 ≤ c ∧ c ≤ 122) ∨ (48 ≤ c ∧ c ≤ 57)) : sign j c = true := by
  unfold sign let' dig
  simp
  omega
theorem sign_not {j c : Nat} (h1 : ¬ (97 ≤ c ∧ c ≤ 122)) (h2 : ¬ (48 ≤ c ∧ c ≤ 57)) (h : ((c : Int) != (j : Int)) = true) : sign j c = false := by
  have e : ¬ c = j := by simp at h; omega
  unfold sign let' dig
  simp [e]
  omega
theorem own_empty (j : Int) (w : World) :
    Calls Try.prog 159 #[.string ByteArray.empty, .int .u8 j] w fun r w' => r = .returned (.bool false) ∧ w' = w := by
  go_enter Try.func159, Try.ntmps159
  go_wp2
  go_ret
  exact ⟨rfl, rfl⟩
theorem own_long (s : ByteArray) (h : 32 < s.size) (hs : s.size ≤ 9223372036854775807) (j : Int) (w : World) :
    Calls Try.prog 159 #[.string s, .int .u8 j] w fun r w' => r = .returned (.bool false) ∧ w' = w := by
  have h0 : 0 < s.size := by omega
  have he : ¬ s = ByteArray.empty := fun h => by subst h; revert h0; decide
  have he2 : ((s.size : Int) == 0) = false := by simp; omega
  go_enter Try.func159, Try.ntmps159
  go_wp2
  go_ret
  exact ⟨rfl, rfl⟩
theorem own_first (s : ByteArray) (h0 : 0 < s.size) (h : s.size ≤ 32) (hl : let' s[0].toNat = false) (j : Int) (w : World) :
    Calls Try.prog 159 #[.string s, .int .u8 j] w fun r w' => r = .returned (.bool false) ∧ w' = w := by
  have he : ¬ s = ByteArray.empty := fun h => by subst h; revert h0; decide
  have he2 : ((s.size : Int) == 0) = false := by simp; omega
  have he3 : decide ((32 : Int) < (s.size : Int)) = false := by simp; omega
  go_enter Try.func159, Try.ntmps159
  go_wp2_with (first | (go_at_call 161; refine (letter_c _ (s[0].toNat) rfl _).mono ?_; rintro e w' ⟨rfl, rfl⟩))
  go_ret
  exact ⟨rfl, rfl⟩
theorem own_go (s : ByteArray) (h0 : 0 < s.size) (h : s.size ≤ 32) (hl : let' s[0].toNat = true) (j : Nat) (w : World) :
    Calls Try.prog 159 #[.string s, .int .u8 j] w fun r w' => r = .returned (.bool (word s j)) ∧ w' = w := by
  have he : ¬ s = ByteArray.empty := fun h => by subst h; revert h0; decide
  have he2 : ((s.size : Int) == 0) = false := by simp; omega
  have he3 : decide ((32 : Int) < (s.size : Int)) = false := by simp; omega
  go_enter Try.func159, Try.ntmps159
  go_wp2_with (first | (go_at_call 161; refine (letter_c _ (s[0].toNat) rfl _).mono ?_; rintro e w' ⟨rfl, rfl⟩))
  go_loop [22] (fun i => ∃ n : Nat, n ≤ s.size ∧ i = .int .i64 n ∧ ∀ i, i < n → sign j (at' s i) = true) (fun i => s.size - (intOf i).toNat)
  case atStart => exact ⟨0, by omega, rfl, fun i hi => by omega⟩
  case round =>
    obtain ⟨n, hn, rfl, ha⟩ := hrel
    have HA : Hid (∀ i, i < n → sign j (at' s i) = true) := ha
    clear ha
    by_cases hlt : n < s.size
    · have E : Hid (at' s n = (s[n]'hlt).toNat) := at_get s n hlt
      go_wp2_with (first
        | (go_at_call 161; refine (letter_c _ (s[n].toNat) rfl _).mono ?_; rintro e w' ⟨rfl, rfl⟩)
        | (go_at_call 162; refine (digit_c _ (s[n].toNat) rfl _).mono ?_; rintro e w' ⟨rfl, rfl⟩))
      · have g : sign j s[n].toNat = true := sign_let (by assumption)
        go_round
        case rel =>
          refine ⟨n + 1, by omega, by go_num, fun i hi => ?_⟩
          by_cases c : i < n
          · exact HA.out i c
          · obtain rfl : i = n := by omega
            rw [E.out]
            exact g
        case measure => simp only [intOf]; omega
      · have g : sign j s[n].toNat = true := sign_dig (by assumption)
        go_round
        case rel =>
          refine ⟨n + 1, by omega, by go_num, fun i hi => ?_⟩
          by_cases c : i < n
          · exact HA.out i c
          · obtain rfl : i = n := by omega
            rw [E.out]
            exact g
        case measure => simp only [intOf]; omega
      · have g : sign j s[n].toNat = false := sign_none (by assumption) (by assumption) (by assumption)
        go_ret
        have e : word s j = false := word_bad hlt (by rw [E.out]; exact g)
        rw [e]
        exact ⟨rfl, rfl⟩
      · have g : sign j s[n].toNat = true := sign_joint (by assumption)
        go_round
        case rel =>
          refine ⟨n + 1, by omega, by go_num, fun i hi => ?_⟩
          by_cases c : i < n
          · exact HA.out i c
          · obtain rfl : i = n := by omega
            rw [E.out]
            exact g
        case measure => simp only [intOf]; omega
    · go_wp2
      go_ret
      have e : word s j = true := word_of h0 h (by rw [at_get s 0 h0]; exact hl) (fun i hi => HA.out i (by omega))
      rw [e]
      exact ⟨rfl, rfl⟩
theorem own_c (s : ByteArray) (hs : s.size ≤ 9223372036854775807) (j : Nat) (w : World) :
    Calls Try.prog 159 #[.string s, .int .u8 j] w fun r w' => r = .returned (.bool (word s j)) ∧ w' = w := by
  by_cases h0 : 0 < s.size
  · by_cases h : s.size ≤ 32
    · have e := at_get s 0 h0
      cases hl : let' s[0].toNat with
      | true => exact own_go s h0 h hl j w
      | false =>
        rw [word_not (by rw [e, hl]; simp)]
        exact own_first s h0 h hl j w
    · rw [word_not (by omega)]
      exact own_long s (by omega) hs j w
  · rw [word_not (by omega)]
    obtain rfl := size_empty (by omega : s.size = 0)
    exact own_empty j w

theorem tag_c (s : ByteArray) (hs : s.size ≤ 9223372036854775807) (w : World) :
    Calls Try.prog 152 #[.string s] w fun r w' => r = .returned (.bool (word s 45)) ∧ w' = w := by
  go_enter Try.func152, Try.ntmps152
  go_wp2_with (first | (go_at_call 159; refine (own_c s hs 45 _).mono ?_; rintro e w' ⟨rfl, rfl⟩))
  go_ret
  exact ⟨rfl, rfl⟩
end Go.Proofs.Ythclndiekjaalaa.UWord

namespace Go.Proofs.Ythclndiekjaalaa.TPure
open Go.RowKit Go.Proofs.Ythclndiekjaalaa.TBase Go.Proofs.Ythclndiekjaalaa.UBase Go.Proofs.Ythclndiekjaalaa.UValid Go.Proofs.Ythclndiekjaalaa.UOwn
set_option linter.unusedVariables false

/-- A text that may be. -/
def tg (s : ByteArray) : Bool := decide (s.size ≤ 4096) && (verr s == 0)
theorem iter_below (w : World) (s : ByteArray) (p : Nat) : Below w.heap.size w (w.iter s p) := (Below.refl _ w).alloc (Nat.le_refl _) _
theorem verr_cases (s : ByteArray) : verr s = 0 ∨ verr s = 300 := by
  cases h : bad s 0 with
  | none => exact .inl (verr_none h).2
  | some i => exact .inr (verr_some h).2
theorem short_c (s : ByteArray) (hs : s.size ≤ 140737488351232) (w : World) :
    Calls Try.prog 56 #[.string s] w fun r w' => r = .returned (.bool (tg s)) ∧ Below w.heap.size w w' := by
  have c71 := valid_c s (by omega) w
  by_cases h : s.size ≤ 4096
  · have e : tg s = (verr s == 0) := by simp [tg, h]
    rw [e]
    have hv := verr_cases s
    generalize verr s = x at *
    generalize vat s = y at *
    have h' : decide ((4096 : Int) < (s.size : Int)) = false := decide_eq_false (by omega)
    clear e
    rcases hv with rfl | rfl
    · go_enter Try.func56, Try.ntmps56
      go_wp2_with (first | (go_at_call 79; refine c71.mono ?_; rintro e w' ⟨rfl, p, rfl⟩))
      go_ret
      exact ⟨rfl, iter_below _ _ _⟩
    · go_enter Try.func56, Try.ntmps56
      go_wp2_with (first | (go_at_call 79; refine c71.mono ?_; rintro e w' ⟨rfl, p, rfl⟩))
      go_ret
      exact ⟨rfl, iter_below _ _ _⟩
  · have e : tg s = false := by simp [tg, h]
    rw [e]
    have h' : decide ((4096 : Int) < (s.size : Int)) = true := decide_eq_true (by omega)
    clear c71 e
    go_enter Try.func56, Try.ntmps56
    go_wp2_with fail
    go_ret
    exact ⟨rfl, Below.refl _ _⟩
/-- The order of texts, and what Compare says. -/
def lt (a b : ByteArray) : Bool := Op.bytesLess a.toList b.toList
def eqB (a b : ByteArray) : Bool := a.toList == b.toList
theorem less_irrefl : ∀ (x : List UInt8), Op.bytesLess x x = false
  | [] => rfl
  | a :: x => by simp [Op.bytesLess, less_irrefl x]
theorem list_eq (a : ByteArray) : a.toList = a.data.toList := by
  rw [ByteArray.toList_eq]
theorem eqB_eq {a b : ByteArray} : eqB a b = true ↔ a = b := by
  unfold eqB
  constructor
  · intro h
    have h := eq_of_beq h
    rw [list_eq, list_eq] at h
    exact ByteArray.ext (Array.toList_inj.1 h)
  · rintro rfl
    simp
def cmpB (a b : ByteArray) : Int := if lt a b = true then -1 else if eqB a b = true then 0 else 1
theorem nan_c (a : ByteArray) (w : World) : Calls Try.prog 164 #[.string a] w fun r w' => r = .returned (.bool false) ∧ w' = w := by
  go_enter Try.func164, Try.ntmps164
  go_wp2_with fail
  go_ret
  exact ⟨rfl, rfl⟩
set_option maxRecDepth 20000 in
theorem cmp_c (a b : ByteArray) (w : World) : Calls Try.prog 163 #[.string a, .string b] w fun r w' => r = .returned (.int .i64 (cmpB a b)) ∧ w' = w := by
  have c1 := nan_c a w
  have c2 := nan_c b w
  cases h1 : Op.bytesLess a.toList b.toList with
  | true =>
    have e : cmpB a b = -1 := by simp [cmpB, lt, h1]
    rw [e]
    go_enter Try.func163, Try.ntmps163
    go_wp2_with (first | (go_at_call 164; first | (refine c1.mono ?_; rintro e w' ⟨rfl, rfl⟩) | (refine c2.mono ?_; rintro e w' ⟨rfl, rfl⟩)))
    go_ret
    exact ⟨rfl, rfl⟩
  | false =>
    cases h2 : (a.toList == b.toList) with
    | true =>
      have e : cmpB a b = 0 := by simp only [cmpB, lt, eqB, h1, h2]; rfl
      rw [e]
      go_enter Try.func163, Try.ntmps163
      go_wp2_with (first | (go_at_call 164; first | (refine c1.mono ?_; rintro e w' ⟨rfl, rfl⟩) | (refine c2.mono ?_; rintro e w' ⟨rfl, rfl⟩)))
      go_ret
      exact ⟨rfl, rfl⟩
    | false =>
      have e : cmpB a b = 1 := by simp only [cmpB, lt, eqB, h1, h2]; rfl
      rw [e]
      go_enter Try.func163, Try.ntmps163
      go_wp2_with (first | (go_at_call 164; first | (refine c1.mono ?_; rintro e w' ⟨rfl, rfl⟩) | (refine c2.mono ?_; rintro e w' ⟨rfl, rfl⟩)))
      go_ret
      exact ⟨rfl, rfl⟩
theorem cmpB_ge (a b : ByteArray) : decide ((0 : Int) ≤ cmpB a b) = !lt a b := by
  unfold cmpB
  cases lt a b with
  | true => simp
  | false =>
    cases eqB a b <;> simp
theorem cmpB_zero (a b : ByteArray) : (cmpB a b == 0) = eqB a b := by
  unfold cmpB
  cases h : eqB a b with
  | true =>
    have : lt a b = false := by
      rw [eqB_eq.1 h]
      exact less_irrefl _
    rw [this]
    rfl
  | false =>
    cases lt a b <;> rfl
/-- An attribute, behind the one ahead of it; a row of them; a tree, but for its kids. -/
def aok (n : List (ByteArray × ByteArray)) (i : Nat) (h : i < n.length) : Bool := UBase.word n[i].1 45 && (tg n[i].2 && (decide (i = 0) || lt (n[i - 1]'(by omega)).1 n[i].1))
def attrsOK (n : List (ByteArray × ByteArray)) : Bool := decide (∀ i (h : i < n.length), aok n i h = true)
def alone (c : T) : Bool := if c.g.toList.isEmpty = true then decide (c.n.length = 0) && (decide (c.l.length = 0) && tg c.s) else UBase.word c.g 45 && (c.s.toList.isEmpty && attrsOK c.n)
theorem attrsOK_true {n : List (ByteArray × ByteArray)} (h : ∀ i (h : i < n.length), aok n i h = true) : attrsOK n = true := decide_eq_true h
theorem attrsOK_false {n : List (ByteArray × ByteArray)} {i : Nat} (hi : i < n.length) (h : aok n i hi = false) : attrsOK n = false := decide_eq_false fun H => by rw [H i hi] at h; cases h
/-- A box that is made and then written. -/
theorem box2 (w : World) (a b x y : Value) (t : TypeId) : ((w.alloc (.cells #[a, b] t)).setCell ⟨w.heap.size, 0, none⟩ x).setCell ⟨w.heap.size, 1, none⟩ y = w.alloc (.cells #[x, y] t) := by
  simp only [World.setCell, World.alloc]
  congr 1
  apply Array.ext_getElem?
  intro i
  by_cases h : i = w.heap.size
  · subst h
    simp only [Array.getElem?_modify, Array.getElem?_push_size, if_true, Option.map_some]
    rfl
  · simp only [Array.getElem?_modify, if_neg (Ne.symm h), Array.getElem?_push, if_neg h]
theorem box4 (w : World) (a b c d x y z u : Value) (t : TypeId) : ((((w.alloc (.cells #[a, b, c, d] t)).setCell ⟨w.heap.size, 0, none⟩ x).setCell ⟨w.heap.size, 1, none⟩ y).setCell ⟨w.heap.size, 2, none⟩ z).setCell ⟨w.heap.size, 3, none⟩ u = w.alloc (.cells #[x, y, z, u] t) := by
  simp only [World.setCell, World.alloc]
  congr 1
  apply Array.ext_getElem?
  intro i
  by_cases h : i = w.heap.size
  · subst h
    simp only [Array.getElem?_modify, Array.getElem?_push_size, if_true, Option.map_some]
    rfl
  · simp only [Array.getElem?_modify, if_neg (Ne.symm h), Array.getElem?_push, if_neg h]
end Go.Proofs.Ythclndiekjaalaa.TPure

/- Contracts of Parse of packages whole and stencilref1, for every text. -/
import Derived.Test.YtjcobebabpeogaaDoorParse
namespace Go.Proofs.YtjcobebabpeogaaDoor.Base
set_option linter.unusedVariables false
open Go.ChangeShapes Go.WideShapes Go.ChangeAt Go.RowKit Go.Proofs.YtjcobebabpeogaaDoor.Sums

/-! ### What Parse answers -/
def bl (l : List UInt8) : Bool := l.head? == some 45
def dl (l : List UInt8) : List UInt8 := if bl l then l.tail else l
def good (l : List UInt8) : Bool := (l == [48]) || posForm (dl l)
def pval (l : List UInt8) : Int := sg (bl l) (val (dl l) : Nat)
def pn (b : Bool) (l : List UInt8) : Int := if posForm l then num (sg b (val l : Nat)) else 0
def pe (b : Bool) (l : List UInt8) : Int := if posForm l then err (sg b (val l : Nat)) else 104
theorem pn_bad {b : Bool} {l : List UInt8} (h : posForm l = false) : pn b l = 0 := by rw [pn, h]; rfl
theorem pe_bad {b : Bool} {l : List UInt8} (h : posForm l = false) : pe b l = 104 := by rw [pe, h]; rfl
theorem pn_good {b : Bool} {l : List UInt8} (h : posForm l = true) : pn b l = num (sg b (val l : Nat)) := by rw [pn, if_pos h]
theorem pe_good {b : Bool} {l : List UInt8} (h : posForm l = true) : pe b l = err (sg b (val l : Nat)) := by rw [pe, if_pos h]
def pnum (l : List UInt8) : Int := if good l then num (pval l) else 0
def perr (l : List UInt8) : Int := if good l then err (pval l) else 104
theorem bs_tail (s : ByteArray) : bs (s.extract 1 s.size) = (bs s).tail := by
  unfold bs
  rw [← List.drop_one, ByteArray.data_extract, Array.toList_extract]
  simp only [List.extract_eq_take_drop]
  rw [List.take_of_length_le]
  rw [List.length_drop, Array.length_toList]
  exact Nat.le_refl _
theorem bl_of {s : ByteArray} (h0 : 0 < s.size) : bl (bs s) = decide (s[0].toNat = 45) := by
  have e := bs_get s 0 h0
  have hl := bs_length s
  match h : bs s with
  | [] => rw [h] at hl; simp at hl; omega
  | c :: r =>
    have e2 : s[0] = c := by rw [e]; simp [h]
    rw [e2]
    simp only [bl, List.head?_cons]
    by_cases hc : c.toNat = 45
    · have : c = 45 := UInt8.toNat_inj.mp hc
      subst this
      rfl
    · have : c ≠ 45 := fun h => hc (by rw [h]; rfl)
      simp [hc, this]
theorem long_out {l : List UInt8} (b : Bool) (hp : posForm l = true) (hl : 19 < l.length) : sg b (val l : Nat) < -9223372036854775808 ∨ 9223372036854775807 < sg b (val l : Nat) := by
  have h1 := val_ge l hp
  have h2 := Nat.pow_le_pow_right (show 0 < 10 by omega) (show 19 ≤ l.length - 1 by omega)
  cases b
  · rw [sg_false]; omega
  · rw [sg_true]; omega
theorem nought_of {s : ByteArray} (h : bs s = [48]) : s = ⟨#[48]⟩ := by
  apply ByteArray.ext
  apply Array.ext'
  exact h
/-- The ways through a text: one lemma for both readers. -/
theorem ways {C : Int → Int → Prop} (s : ByteArray) (hs : s.size ≤ 9223372036854775807)
    (nought : s = ⟨#[48]⟩ → C 0 0) (empty : s = ByteArray.empty → C 0 104)
    (plain : ¬ s.toList = [48] → (s.toList == [48]) = false → (h0 : 0 < s.size) → ((s[0].toNat : Int) == 45) = false → C (pn false (bs s)) (pe false (bs s)))
    (signed : ¬ s.toList = [48] → (s.toList == [48]) = false → (h0 : 0 < s.size) → ((s[0].toNat : Int) == 45) = true → C (pn true (bs (s.extract 1 s.size))) (pe true (bs (s.extract 1 s.size)))) :
    C (pnum (bs s)) (perr (bs s)) := by
  have ht : s.toList = bs s := ByteArray.toList_eq s
  by_cases hn : bs s = [48]
  · have e := nought (nought_of hn)
    rw [hn]
    exact e
  · have hn1 : ¬ s.toList = [48] := by rw [ht]; exact hn
    have hn2 : (s.toList == [48]) = false := by rw [ht]; simpa using hn
    have hn3 : (bs s == [48]) = false := by simpa using hn
    by_cases h0 : 0 < s.size
    · by_cases hb : s[0].toNat = 45
      · have e1 : bl (bs s) = true := by rw [bl_of h0]; simp [hb]
        have e2 : dl (bs s) = bs (s.extract 1 s.size) := by rw [dl, if_pos e1, bs_tail]
        have h := signed hn1 hn2 h0 (by simp [hb])
        unfold pnum perr good pval
        rw [hn3, Bool.false_or, e1, e2]
        exact h
      · have e1 : bl (bs s) = false := by rw [bl_of h0]; simp [hb]
        have e2 : dl (bs s) = bs s := by rw [dl, if_neg (by rw [e1]; decide)]
        have h := plain hn1 hn2 h0 (by simp; omega)
        unfold pnum perr good pval
        rw [hn3, Bool.false_or, e1, e2]
        exact h
    · have e : s = ByteArray.empty := by
        apply ByteArray.ext
        apply Array.eq_empty_of_size_eq_zero
        exact Nat.eq_zero_of_not_pos h0
      have h := empty e
      rw [e]
      exact h

theorem parse (s : ByteArray) (hs : s.size ≤ 9223372036854775807) (w : World) :
    Calls Tryd.prog 30 #[.string s] w fun e w' => e = .returned (.tuple #[.int .i64 (pnum (bs s)), .int .i64 (perr (bs s))]) ∧ w' = w := by
  refine ways (C := fun x y => Calls Tryd.prog 30 #[.string s] w fun e w' => e = .returned (.tuple #[.int .i64 x, .int .i64 y]) ∧ w' = w) s hs ?_ ?_ ?_ ?_
  · rintro rfl
    exact parse_nought w
  · rintro rfl
    exact parse_empty w
  · intro hn hn2 h0 hb
    cases hp : posForm (bs s)
    · rw [pn_bad hp, pe_bad hp]
      exact parse_bad s hs hn hn2 h0 hb hp w
    · rw [pn_good hp, pe_good hp]
      by_cases hl : 19 < s.size
      · have ho := long_out false hp (by rw [bs_length]; exact hl)
        rw [num_out ho, err_out ho]
        exact parse_long s hs hn hn2 h0 hb hp hl w
      · exact parse_go s hs hn hn2 h0 hb hp (by omega) w
  · intro hn hn2 h0 hb
    cases hp : posForm (bs (s.extract 1 s.size))
    · rw [pn_bad hp, pe_bad hp]
      exact nparse_bad s hs hn hn2 h0 hb hp w
    · rw [pn_good hp, pe_good hp]
      by_cases hl : 20 < s.size
      · have ho := long_out true hp (by rw [bs_length]; simp; omega)
        rw [num_out ho, err_out ho]
        exact nparse_long s hs hn hn2 h0 hb hp hl w
      · exact nparse_go s hs hn hn2 h0 hb hp (by omega) w

/-! ### The reference's -/
theorem rparse_empty (w : World) :
    Calls Tryd.prog 31 #[.string ByteArray.empty] w fun e w' => e = .returned (.tuple #[.int .i64 0, .int .i64 104]) ∧ w' = w := by
  go_enter Tryd.func31, Tryd.ntmps31
  go_wp2
  go_ret2
  exact ⟨rfl, rfl⟩
theorem rparse_nought (w : World) :
    Calls Tryd.prog 31 #[.string ⟨#[48]⟩] w fun e w' => e = .returned (.tuple #[.int .i64 0, .int .i64 0]) ∧ w' = w := by
  go_enter Tryd.func31, Tryd.ntmps31
  go_wp2
  refine wp_loop_rounds 2 ?_
  rw [rounds_succ]
  go_wp2
  rw [rounds_succ]
  go_wp2_with (first | (go_at_call 38; refine (back0 _ _ (by omega) (by omega) _).mono ?_; rintro e w' ⟨rfl, rfl⟩))
  go_ret2
  exact ⟨rfl, rfl⟩
/-- What the loop knows: the digits so far, and the number or that it is too great. -/
def Knows (l : List UInt8) (n : Nat) (X : Int) (O : Bool) : Prop :=
  (∀ j (hj : j < l.length), j < n → isDig l[j] = true) ∧ (O = false → X = ((val (l.take n) : Nat) : Int)) ∧ (O = true → 9223372036854775808 < ((val (l.take n) : Nat) : Int))
theorem Knows.step {l : List UInt8} {n : Nat} {X X' : Int} {O O' : Bool} (h : Knows l n X O) (hn : n < l.length) (hd : 48 ≤ l[n].toNat ∧ l[n].toNat ≤ 57)
    (h1 : O' = false → O = false ∧ X' = 10 * X + ((l[n].toNat : Int) - 48)) (h2 : O' = true → O = true ∨ 1844674407370955160 < X) : Knows l (n + 1) X' O' := by
  obtain ⟨d, a, b⟩ := h
  have e := val_take l n hn
  refine ⟨fun j hj hlt => ?_, fun ho => ?_, fun ho => ?_⟩
  · by_cases c : j < n
    · exact d j hj c
    · obtain rfl : j = n := by omega
      simp only [isDig]; simp; omega
  · obtain ⟨o, x⟩ := h1 ho
    have := a o
    rw [x, e]
    omega
  · rw [e]
    rcases h2 ho with o | x
    · have := b o
      omega
    · cases O
      · have := a rfl
        omega
      · have := b rfl
        omega
theorem Knows.all {l : List UInt8} {n : Nat} {X : Int} {O : Bool} (h : Knows l n X O) (hn : l.length ≤ n) (h0 : 0 < l.length) (hz : l[0].toNat ≠ 48) : posForm l = true :=
  posForm_of h0 hz fun j hj => h.1 j hj (by omega)
theorem rparse_zero (s : ByteArray) (hs : s.size ≤ 9223372036854775807) (hn : ¬ s.toList = [48]) (hn2 : (s.toList == [48]) = false) (h0 : 0 < s.size) (hb : ((s[0].toNat : Int) == 45) = false) (hd0 : 0 < s.size) (hz : ((s[0].toNat : Int) == 48) = true) (w : World) :
    Calls Tryd.prog 31 #[.string s] w fun e w' => e = .returned (.tuple #[.int .i64 0, .int .i64 104]) ∧ w' = w := by
  have he : ¬ s = ByteArray.empty := fun h => by subst h; simp at h0
  have he2 : ((s.size : Int) == 0) = false := by simp; exact he
  go_enter Tryd.func31, Tryd.ntmps31
  go_wp2
  go_ret2
  exact ⟨rfl, rfl⟩
set_option maxHeartbeats 800000 in
theorem rparse_loop (s : ByteArray) (hs : s.size ≤ 9223372036854775807) (hn : ¬ s.toList = [48]) (hn2 : (s.toList == [48]) = false) (h0 : 0 < s.size) (hb : ((s[0].toNat : Int) == 45) = false) (hd0 : 0 < s.size) (hz : ((s[0].toNat : Int) == 48) = false) (w : World) :
    Calls Tryd.prog 31 #[.string s] w fun e w' => e = .returned (.tuple #[.int .i64 (pn false (bs s)), .int .i64 (pe false (bs s))]) ∧ w' = w := by
  have hsz : (bs s).length = s.size := bs_length s
  have hsz' : Hid ((bs s).length = s.size) := hsz
  have hz' : Hid (((bs s)[0]'(by rw [hsz'.out]; omega)).toNat ≠ 48) := by
    show _ ≠ _
    rw [← bs_get s 0 hd0]
    simp at hz
    omega
  clear hsz
  have he : ¬ s = ByteArray.empty := fun h => by subst h; simp at h0
  have he2 : ((s.size : Int) == 0) = false := by simp; exact he
  go_enter Tryd.func31, Tryd.ntmps31
  go_wp2
  go_loop [6, 7, 8] (fun x o i => ∃ (n : Nat) (X : Int) (O : Bool), n ≤ s.size ∧ i = .int .i64 n ∧ x = .int .u64 X ∧ o = .bool O ∧ 0 ≤ X ∧ X ≤ 18446744073709551615 ∧ Hid (Knows (bs s) n X O)) (fun _ _ i => s.size - (intOf i).toNat)
  case atStart => exact ⟨0, 0, false, by omega, rfl, rfl, rfl, by omega, by omega, fun j hj h => by omega, fun _ => rfl, fun h => by cases h⟩
  case round =>
    obtain ⟨n, X, O, hns, rfl, rfl, rfl, hX0, hX1, HK⟩ := hrel
    by_cases hlt : n < s.size
    · have hlt2 : n < s.size := hlt
      have hltl : n < (bs s).length := by rw [hsz'.out]; exact hlt
      have hg := bs_get s n hlt2
      have HG : Hid (s[n] = (bs s)[n]) := hg
      clear hg
      by_cases c1 : (s[n].toNat : Int) < 48
      · go_wp2
        go_ret2
        have e : posForm (bs s) = false := posForm_not (j := n) (by rw [hsz'.out]; exact hlt) (by rw [← HG.out]; simp only [isDig]; simp; omega)
        rw [pn_bad e, pe_bad e]
        exact ⟨rfl, rfl⟩
      · by_cases c2 : 57 < (s[n].toNat : Int)
        · go_wp2
          go_ret2
          have e : posForm (bs s) = false := posForm_not (j := n) (by rw [hsz'.out]; exact hlt) (by rw [← HG.out]; simp only [isDig]; simp; omega)
          rw [pn_bad e, pe_bad e]
          exact ⟨rfl, rfl⟩
        · cases O
          · by_cases c3 : 1844674407370955160 < X
            · go_wp2
              go_round
              case rel =>
                refine ⟨n + 1, _, true, by omega, by go_num, rfl, rfl, ?_, ?_, HK.out.step (by rw [hsz'.out]; exact hlt) (by rw [← HG.out]; omega) (fun h => by cases h) (fun _ => Or.inr c3)⟩
                · first | omega | (rw [IntKind.wrap_u64]; omega)
                · first | omega | (rw [IntKind.wrap_u64]; omega)
              case measure => simp only [intOf]; omega
            · go_wp2
              go_round
              case rel =>
                exact ⟨n + 1, _, false, by omega, by go_num, rfl, rfl, by omega, by omega, HK.out.step (by rw [hsz'.out]; exact hlt) (by rw [← HG.out]; omega) (fun _ => ⟨rfl, by rw [← HG.out]; omega⟩) (fun h => by cases h)⟩
              case measure => simp only [intOf]; omega
          · go_wp2
            go_round
            case rel =>
              refine ⟨n + 1, _, true, by omega, by go_num, rfl, rfl, ?_, ?_, HK.out.step (by rw [hsz'.out]; exact hlt) (by rw [← HG.out]; omega) (fun h => by cases h) (fun _ => Or.inl rfl)⟩
              · first | omega | (rw [IntKind.wrap_u64]; omega)
              · first | omega | (rw [IntKind.wrap_u64]; omega)
            case measure => simp only [intOf]; omega
    · have hp : Hid (posForm (bs s) = true) := HK.out.all (by rw [hsz'.out]; omega) (by rw [hsz'.out]; exact hd0) hz'.out
      have ht : Hid ((bs s).take n = bs s) := List.take_of_length_le (by rw [hsz'.out]; omega)
      cases O
      · go_wp2_with (first | (go_at_call 38; refine (back0 _ _ (by omega) (by omega) _).mono ?_; rintro e w' ⟨rfl, rfl⟩))
        go_ret2
        have e := HK.out.2.1 rfl
        rw [ht.out] at e
        rw [pn_good hp.out, pe_good hp.out, ← e]
        exact ⟨rfl, rfl⟩
      · go_wp2
        go_ret2
        have e := HK.out.2.2 rfl
        rw [ht.out] at e
        have ho : sg false (val (bs s) : Nat) < -9223372036854775808 ∨ 9223372036854775807 < sg false (val (bs s) : Nat) := by
          first | (rw [sg_false]; omega) | (rw [sg_true]; omega)
        rw [pn_good hp.out, pe_good hp.out, num_out ho, err_out ho]
        exact ⟨rfl, rfl⟩
theorem rnparse_bare (s : ByteArray) (hn : ¬ s.toList = [48]) (hn2 : (s.toList == [48]) = false) (h0 : 0 < s.size) (hb : ((s[0].toNat : Int) == 45) = true) (hd0 : s.size = 1) (w : World) :
    Calls Tryd.prog 31 #[.string s] w fun e w' => e = .returned (.tuple #[.int .i64 0, .int .i64 104]) ∧ w' = w := by
  have he : ¬ s = ByteArray.empty := fun h => by subst h; simp at h0
  have he2 : ((s.size : Int) == 0) = false := by simp; exact he
  go_enter Tryd.func31, Tryd.ntmps31
  go_wp2
  go_ret2
  exact ⟨rfl, rfl⟩
theorem rnparse_zero (s : ByteArray) (hs : s.size ≤ 9223372036854775807) (hn : ¬ s.toList = [48]) (hn2 : (s.toList == [48]) = false) (h0 : 0 < s.size) (hb : ((s[0].toNat : Int) == 45) = true) (d : ByteArray) (hd : s.extract 1 s.size = d) (hds : d.size ≤ 9223372036854775807) (hd0 : 0 < d.size) (hz : ((d[0].toNat : Int) == 48) = true) (w : World) :
    Calls Tryd.prog 31 #[.string s] w fun e w' => e = .returned (.tuple #[.int .i64 0, .int .i64 104]) ∧ w' = w := by
  have he : ¬ s = ByteArray.empty := fun h => by subst h; simp at h0
  have he2 : ((s.size : Int) == 0) = false := by simp; exact he
  have hf : ¬ d = ByteArray.empty := fun h => by subst h; simp at hd0
  have hf2 : ((d.size : Int) == 0) = false := by simp; exact hf
  go_enter Tryd.func31, Tryd.ntmps31
  go_wp2
  go_ret2
  exact ⟨rfl, rfl⟩
set_option maxHeartbeats 800000 in
theorem rnparse_loop (s : ByteArray) (hs : s.size ≤ 9223372036854775807) (hn : ¬ s.toList = [48]) (hn2 : (s.toList == [48]) = false) (h0 : 0 < s.size) (hb : ((s[0].toNat : Int) == 45) = true) (d : ByteArray) (hd : s.extract 1 s.size = d) (hds : d.size ≤ 9223372036854775807) (hd0 : 0 < d.size) (hz : ((d[0].toNat : Int) == 48) = false) (w : World) :
    Calls Tryd.prog 31 #[.string s] w fun e w' => e = .returned (.tuple #[.int .i64 (pn true (bs d)), .int .i64 (pe true (bs d))]) ∧ w' = w := by
  have hsz : (bs d).length = d.size := bs_length d
  have hsz' : Hid ((bs d).length = d.size) := hsz
  have hz' : Hid (((bs d)[0]'(by rw [hsz'.out]; omega)).toNat ≠ 48) := by
    show _ ≠ _
    rw [← bs_get d 0 hd0]
    simp at hz
    omega
  clear hsz
  have he : ¬ s = ByteArray.empty := fun h => by subst h; simp at h0
  have he2 : ((s.size : Int) == 0) = false := by simp; exact he
  have hf : ¬ d = ByteArray.empty := fun h => by subst h; simp at hd0
  have hf2 : ((d.size : Int) == 0) = false := by simp; exact hf
  go_enter Tryd.func31, Tryd.ntmps31
  go_wp2
  go_loop [6, 7, 8] (fun x o i => ∃ (n : Nat) (X : Int) (O : Bool), n ≤ d.size ∧ i = .int .i64 n ∧ x = .int .u64 X ∧ o = .bool O ∧ 0 ≤ X ∧ X ≤ 18446744073709551615 ∧ Hid (Knows (bs d) n X O)) (fun _ _ i => d.size - (intOf i).toNat)
  case atStart => exact ⟨0, 0, false, by omega, rfl, rfl, rfl, by omega, by omega, fun j hj h => by omega, fun _ => rfl, fun h => by cases h⟩
  case round =>
    obtain ⟨n, X, O, hns, rfl, rfl, rfl, hX0, hX1, HK⟩ := hrel
    by_cases hlt : n < d.size
    · have hlt2 : n < d.size := hlt
      have hltl : n < (bs d).length := by rw [hsz'.out]; exact hlt
      have hg := bs_get d n hlt2
      have HG : Hid (d[n] = (bs d)[n]) := hg
      clear hg
      by_cases c1 : (d[n].toNat : Int) < 48
      · go_wp2
        go_ret2
        have e : posForm (bs d) = false := posForm_not (j := n) (by rw [hsz'.out]; exact hlt) (by rw [← HG.out]; simp only [isDig]; simp; omega)
        rw [pn_bad e, pe_bad e]
        exact ⟨rfl, rfl⟩
      · by_cases c2 : 57 < (d[n].toNat : Int)
        · go_wp2
          go_ret2
          have e : posForm (bs d) = false := posForm_not (j := n) (by rw [hsz'.out]; exact hlt) (by rw [← HG.out]; simp only [isDig]; simp; omega)
          rw [pn_bad e, pe_bad e]
          exact ⟨rfl, rfl⟩
        · cases O
          · by_cases c3 : 1844674407370955160 < X
            · go_wp2
              go_round
              case rel =>
                refine ⟨n + 1, _, true, by omega, by go_num, rfl, rfl, ?_, ?_, HK.out.step (by rw [hsz'.out]; exact hlt) (by rw [← HG.out]; omega) (fun h => by cases h) (fun _ => Or.inr c3)⟩
                · first | omega | (rw [IntKind.wrap_u64]; omega)
                · first | omega | (rw [IntKind.wrap_u64]; omega)
              case measure => simp only [intOf]; omega
            · go_wp2
              go_round
              case rel =>
                exact ⟨n + 1, _, false, by omega, by go_num, rfl, rfl, by omega, by omega, HK.out.step (by rw [hsz'.out]; exact hlt) (by rw [← HG.out]; omega) (fun _ => ⟨rfl, by rw [← HG.out]; omega⟩) (fun h => by cases h)⟩
              case measure => simp only [intOf]; omega
          · go_wp2
            go_round
            case rel =>
              refine ⟨n + 1, _, true, by omega, by go_num, rfl, rfl, ?_, ?_, HK.out.step (by rw [hsz'.out]; exact hlt) (by rw [← HG.out]; omega) (fun h => by cases h) (fun _ => Or.inl rfl)⟩
              · first | omega | (rw [IntKind.wrap_u64]; omega)
              · first | omega | (rw [IntKind.wrap_u64]; omega)
            case measure => simp only [intOf]; omega
    · have hp : Hid (posForm (bs d) = true) := HK.out.all (by rw [hsz'.out]; omega) (by rw [hsz'.out]; exact hd0) hz'.out
      have ht : Hid ((bs d).take n = bs d) := List.take_of_length_le (by rw [hsz'.out]; omega)
      cases O
      · go_wp2_with (first | (go_at_call 38; refine (back0 _ _ (by omega) (by omega) _).mono ?_; rintro e w' ⟨rfl, rfl⟩))
        go_ret2
        have e := HK.out.2.1 rfl
        rw [ht.out] at e
        rw [pn_good hp.out, pe_good hp.out, ← e]
        exact ⟨rfl, rfl⟩
      · go_wp2
        go_ret2
        have e := HK.out.2.2 rfl
        rw [ht.out] at e
        have ho : sg true (val (bs d) : Nat) < -9223372036854775808 ∨ 9223372036854775807 < sg true (val (bs d) : Nat) := by
          first | (rw [sg_false]; omega) | (rw [sg_true]; omega)
        rw [pn_good hp.out, pe_good hp.out, num_out ho, err_out ho]
        exact ⟨rfl, rfl⟩
theorem rparse (s : ByteArray) (hs : s.size ≤ 9223372036854775807) (w : World) :
    Calls Tryd.prog 31 #[.string s] w fun e w' => e = .returned (.tuple #[.int .i64 (pnum (bs s)), .int .i64 (perr (bs s))]) ∧ w' = w := by
  refine ways (C := fun x y => Calls Tryd.prog 31 #[.string s] w fun e w' => e = .returned (.tuple #[.int .i64 x, .int .i64 y]) ∧ w' = w) s hs ?_ ?_ ?_ ?_
  · rintro rfl
    exact rparse_nought w
  · rintro rfl
    exact rparse_empty w
  · intro hn hn2 h0 hb
    by_cases hz : s[0].toNat = 48
    · have e : posForm (bs s) = false := posForm_zero (by rw [bs_length]; exact h0) (by rw [← bs_get s 0 h0]; exact hz)
      rw [pn_bad e, pe_bad e]
      exact rparse_zero s hs hn hn2 h0 hb h0 (by simp [hz]) w
    · exact rparse_loop s hs hn hn2 h0 hb h0 (by simp; omega) w
  · intro hn hn2 h0 hb
    by_cases h1 : s.size = 1
    · have e : posForm (bs (s.extract 1 s.size)) = false := by
        have : bs (s.extract 1 s.size) = [] := List.eq_nil_of_length_eq_zero (by rw [bs_length]; simp; omega)
        rw [this]
        rfl
      rw [pn_bad e, pe_bad e]
      exact rnparse_bare s hn hn2 h0 hb h1 w
    · have hd : 0 < (s.extract 1 s.size).size := by simp; omega
      by_cases hz : (s.extract 1 s.size)[0].toNat = 48
      · have e : posForm (bs (s.extract 1 s.size)) = false := posForm_zero (by rw [bs_length]; exact hd) (by rw [← bs_get _ 0 hd]; exact hz)
        rw [pn_bad e, pe_bad e]
        exact rnparse_zero s hs hn hn2 h0 hb _ rfl (by simp; omega) hd (by simp [hz]) w
      · exact rnparse_loop s hs hn hn2 h0 hb _ rfl (by simp; omega) hd (by simp; omega) w
end Go.Proofs.YtjcobebabpeogaaDoor.Base

/- What a tree alone may be: contracts of mayBe and fault. -/
import Derived.Test.YtgknjjaemjkloaaTRow
import Derived.Test.YtgknjjaemjkloaaUOwn
import Derived.Test.YtgknjjaemjkloaaUWord
import Derived.Laws.Cover1
import Derived.Deep.QuietTactic
import Derived.BigQuiet
namespace Go.Proofs.Ytgknjjaemjkloaa.TPure
open Go.RowKit Go.Proofs.Ytgknjjaemjkloaa.TBase Go.Proofs.Ytgknjjaemjkloaa.UBase Go.Proofs.Ytgknjjaemjkloaa.UValid Go.Proofs.Ytgknjjaemjkloaa.UOwn
set_option linter.unusedVariables false

/-- A text that may be. -/
def tg (s : ByteArray) : Bool := decide (s.size ≤ 4096) && (verr s == 0)
theorem iter_below (w : World) (s : ByteArray) (p : Nat) : Below w.heap.size w (w.iter s p) := (Below.refl _ w).alloc (Nat.le_refl _) _
theorem verr_cases (s : ByteArray) : verr s = 0 ∨ verr s = 300 := by
  cases h : bad s 0 with
  | none => exact .inl (verr_none h).2
  | some i => exact .inr (verr_some h).2
theorem short_c (s : ByteArray) (hs : s.size ≤ 140737488351232) (w : World) :
    Calls Try.prog 56 #[.string s] w fun r w' => r = .returned (.bool (tg s)) ∧ Below w.heap.size w w' := by
  have c71 := valid_c s (by omega) w
  by_cases h : s.size ≤ 4096
  · have e : tg s = (verr s == 0) := by simp [tg, h]
    rw [e]
    have hv := verr_cases s
    generalize verr s = x at *
    generalize vat s = y at *
    have h' : decide ((4096 : Int) < (s.size : Int)) = false := decide_eq_false (by omega)
    clear e
    rcases hv with rfl | rfl
    · go_enter Try.func56, Try.ntmps56
      go_wp2_with (first | (go_at_call 79; refine c71.mono ?_; rintro e w' ⟨rfl, p, rfl⟩))
      go_ret
      exact ⟨rfl, iter_below _ _ _⟩
    · go_enter Try.func56, Try.ntmps56
      go_wp2_with (first | (go_at_call 79; refine c71.mono ?_; rintro e w' ⟨rfl, p, rfl⟩))
      go_ret
      exact ⟨rfl, iter_below _ _ _⟩
  · have e : tg s = false := by simp [tg, h]
    rw [e]
    have h' : decide ((4096 : Int) < (s.size : Int)) = true := decide_eq_true (by omega)
    clear c71 e
    go_enter Try.func56, Try.ntmps56
    go_wp2_with fail
    go_ret
    exact ⟨rfl, Below.refl _ _⟩
/-- The order of texts, and what Compare says. -/
def lt (a b : ByteArray) : Bool := Op.bytesLess a.toList b.toList
def eqB (a b : ByteArray) : Bool := a.toList == b.toList
theorem less_irrefl : ∀ (x : List UInt8), Op.bytesLess x x = false
  | [] => rfl
  | a :: x => by simp [Op.bytesLess, less_irrefl x]
theorem list_eq (a : ByteArray) : a.toList = a.data.toList := by
  rw [ByteArray.toList_eq]
theorem eqB_eq {a b : ByteArray} : eqB a b = true ↔ a = b := by
  unfold eqB
  constructor
  · intro h
    have h := eq_of_beq h
    rw [list_eq, list_eq] at h
    exact ByteArray.ext (Array.toList_inj.1 h)
  · rintro rfl
    simp
def cmpB (a b : ByteArray) : Int := if lt a b = true then -1 else if eqB a b = true then 0 else 1
theorem nan_c (a : ByteArray) (w : World) : Calls Try.prog 164 #[.string a] w fun r w' => r = .returned (.bool false) ∧ w' = w := by
  go_enter Try.func164, Try.ntmps164
  go_wp2_with fail
  go_ret
  exact ⟨rfl, rfl⟩
set_option maxRecDepth 20000 in
theorem cmp_c (a b : ByteArray) (w : World) : Calls Try.prog 163 #[.string a, .string b] w fun r w' => r = .returned (.int .i64 (cmpB a b)) ∧ w' = w := by
  have c1 := nan_c a w
  have c2 := nan_c b w
  cases h1 : Op.bytesLess a.toList b.toList with
  | true =>
    have e : cmpB a b = -1 := by simp [cmpB, lt, h1]
    rw [e]
    go_enter Try.func163, Try.ntmps163
    go_wp2_with (first | (go_at_call 164; first | (refine c1.mono ?_; rintro e w' ⟨rfl, rfl⟩) | (refine c2.mono ?_; rintro e w' ⟨rfl, rfl⟩)))
    go_ret
    exact ⟨rfl, rfl⟩
  | false =>
    cases h2 : (a.toList == b.toList) with
    | true =>
      have e : cmpB a b = 0 := by simp only [cmpB, lt, eqB, h1, h2]; rfl
      rw [e]
      go_enter Try.func163, Try.ntmps163
      go_wp2_with (first | (go_at_call 164; first | (refine c1.mono ?_; rintro e w' ⟨rfl, rfl⟩) | (refine c2.mono ?_; rintro e w' ⟨rfl, rfl⟩)))
      go_ret
      exact ⟨rfl, rfl⟩
    | false =>
      have e : cmpB a b = 1 := by simp only [cmpB, lt, eqB, h1, h2]; rfl
      rw [e]
      go_enter Try.func163, Try.ntmps163
      go_wp2_with (first | (go_at_call 164; first | (refine c1.mono ?_; rintro e w' ⟨rfl, rfl⟩) | (refine c2.mono ?_; rintro e w' ⟨rfl, rfl⟩)))
      go_ret
      exact ⟨rfl, rfl⟩
theorem cmpB_ge (a b : ByteArray) : decide ((0 : Int) ≤ cmpB a b) = !lt a b := by
  unfold cmpB
  cases lt a b with
  | true => simp
  | false =>
    cases eqB a b <;> simp
theorem cmpB_zero (a b : ByteArray) : (cmpB a b == 0) = eqB a b := by
  unfold cmpB
  cases h : eqB a b with
  | true =>
    have : lt a b = false := by
      rw [eqB_eq.1 h]
      exact less_irrefl _
    rw [this]
    rfl
  | false =>
    cases lt a b <;> rfl
/-- An attribute, behind the one ahead of it; a row of them; a tree, but for its kids. -/
def aok (n : List (ByteArray × ByteArray)) (i : Nat) (h : i < n.length) : Bool := UBase.word n[i].1 45 && (tg n[i].2 && (decide (i = 0) || lt (n[i - 1]'(by omega)).1 n[i].1))
def attrsOK (n : List (ByteArray × ByteArray)) : Bool := decide (∀ i (h : i < n.length), aok n i h = true)
def alone (c : T) : Bool := if c.g.toList.isEmpty = true then decide (c.n.length = 0) && (decide (c.l.length = 0) && tg c.s) else UBase.word c.g 45 && (c.s.toList.isEmpty && attrsOK c.n)
theorem attrsOK_true {n : List (ByteArray × ByteArray)} (h : ∀ i (h : i < n.length), aok n i h = true) : attrsOK n = true := decide_eq_true h
theorem attrsOK_false {n : List (ByteArray × ByteArray)} {i : Nat} (hi : i < n.length) (h : aok n i hi = false) : attrsOK n = false := decide_eq_false fun H => by rw [H i hi] at h; cases h
/-- A box that is made and then written. -/
theorem box2 (w : World) (a b x y : Value) (t : TypeId) : ((w.alloc (.cells #[a, b] t)).setCell ⟨w.heap.size, 0, none⟩ x).setCell ⟨w.heap.size, 1, none⟩ y = w.alloc (.cells #[x, y] t) := by
  simp only [World.setCell, World.alloc]
  congr 1
  apply Array.ext_getElem?
  intro i
  by_cases h : i = w.heap.size
  · subst h
    simp only [Array.getElem?_modify, Array.getElem?_push_size, if_true, Option.map_some]
    rfl
  · simp only [Array.getElem?_modify, if_neg (Ne.symm h), Array.getElem?_push, if_neg h]
theorem box4 (w : World) (a b c d x y z u : Value) (t : TypeId) : ((((w.alloc (.cells #[a, b, c, d] t)).setCell ⟨w.heap.size, 0, none⟩ x).setCell ⟨w.heap.size, 1, none⟩ y).setCell ⟨w.heap.size, 2, none⟩ z).setCell ⟨w.heap.size, 3, none⟩ u = w.alloc (.cells #[x, y, z, u] t) := by
  simp only [World.setCell, World.alloc]
  congr 1
  apply Array.ext_getElem?
  intro i
  by_cases h : i = w.heap.size
  · subst h
    simp only [Array.getElem?_modify, Array.getElem?_push_size, if_true, Option.map_some]
    rfl
  · simp only [Array.getElem?_modify, if_neg (Ne.symm h), Array.getElem?_push, if_neg h]
end Go.Proofs.Ytgknjjaemjkloaa.TPure

namespace Go.Proofs.Ytgknjjaemjkloaa.TAttrs
open Go.RowKit Go.Proofs.Ytgknjjaemjkloaa.TBase Go.Proofs.Ytgknjjaemjkloaa.TPure
set_option linter.unusedVariables false

theorem drewN_below {n : Nat} {w w' : World} (h : Below n w w') (k : Nat) : Below n w (w'.drewN k) := h.trans ⟨rfl, rfl, rfl, by simp, fun _ _ => by simp⟩
theorem aok_no1 {n : List (ByteArray × ByteArray)} {i : Nat} {h : i < n.length} (h1 : UBase.word n[i].1 45 = false) : aok n i h = false := by simp [aok, h1]
theorem aok_no2 {n : List (ByteArray × ByteArray)} {i : Nat} {h : i < n.length} (h1 : tg n[i].2 = false) : aok n i h = false := by simp [aok, h1]
theorem aok_no3 {n : List (ByteArray × ByteArray)} {i : Nat} {h : i + 1 < n.length} (h1 : lt (n[i]'(by omega)).1 n[i + 1].1 = false) : aok n (i + 1) h = false := by simp [aok, h1]
theorem aok_yes0 {n : List (ByteArray × ByteArray)} {h : 0 < n.length} (h1 : UBase.word n[0].1 45 = true) (h2 : tg n[0].2 = true) : aok n 0 h = true := by simp [aok, h1, h2]
theorem aok_yes {n : List (ByteArray × ByteArray)} {i : Nat} {h : i + 1 < n.length} (h1 : UBase.word n[i + 1].1 45 = true) (h2 : tg n[i + 1].2 = true) (h3 : lt (n[i]'(by omega)).1 n[i + 1].1 = true) : aok n (i + 1) h = true := by simp [aok, h1, h2, h3]
set_option maxRecDepth 20000 in
set_option maxHeartbeats 800000 in
theorem attrs_c (v : Value) (n : List (ByteArray × ByteArray)) (w : World) (h : Ax false All w v n) :
    Calls Try.prog 160 #[v] w fun e w' => e = .returned (.bool (attrsOK n)) ∧ Below w.heap.size w w' := by
  obtain ⟨a, cap, rfl, hlc, hm, hlen, hsz, hnil, hN⟩ := h
  go_enter Try.func160, Try.ntmps160
  go_wp2_with fail
  go_loopw [7] (fun i wr => ∃ q : Nat, q ≤ n.length ∧ i = .int .i64 q ∧ (∀ j (h : j < n.length), j < q → aok n j h = true) ∧ Below w.heap.size w wr) (fun i _ => n.length - (intOf i).toNat)
  case atStart => exact ⟨0, by omega, rfl, fun j _ h => by omega, Below.refl _ _⟩
  case round =>
    obtain ⟨q, hq, rfl, hall, hb⟩ := hrel
    by_cases hlt : q < n.length
    · have hn := hsz n[q] (List.getElem_mem hlt)
      obtain ⟨g, o, rfl, -, hc, hd⟩ := attr_at hN hlt
      have hc := below_cell hc hb
      have hd := below_cell hd hb
      have HA : Hid (∀ j (h : j < n.length), j < q → aok n j h = true) := hall
      clear hall
      obtain ⟨x, hx⟩ : ∃ x, n[q].1 = x := ⟨_, rfl⟩
      obtain ⟨y, hy⟩ : ∃ y, n[q].2 = y := ⟨_, rfl⟩
      rw [hx] at hc hn
      rw [hy] at hd hn
      have Hx : Hid (n[q].1 = x) := hx
      have Hy : Hid (n[q].2 = y) := hy
      clear hx hy
      have b0 : Below wr.heap.size wr (wr.alloc (.cells #[.string x, .string y] 176)) := (Below.refl _ _).alloc (Nat.le_refl _) _
      have k0 := (two_box (heap_alloc_new wr (.cells #[.string x, .string y] 176))).1
      have c67 := UWord.tag_c x (by omega) (wr.alloc (.cells #[.string x, .string y] 176))
      have c66 := short_c y (by omega) (wr.alloc (.cells #[.string x, .string y] 176))
      cases e1 : UBase.word x 45 with
      | false =>
        rw [e1] at c67
        go_wp2_with (first | (go_at_call 152; refine c67.mono ?_; rintro e w' ⟨rfl, rfl⟩))
        go_ret
        exact ⟨by rw [attrsOK_false hlt (aok_no1 (by rw [Hx.out]; exact e1))]; rfl, nx hb b0⟩
      | true =>
        rw [e1] at c67
        cases e2 : tg y with
        | false =>
          rw [e2] at c66
          go_wp2_with (first | (go_at_call 152; refine c67.mono ?_; rintro e w' ⟨rfl, rfl⟩) | (go_at_call 56; refine c66.mono ?_; rintro e w1 ⟨rfl, b1⟩))
          go_ret
          exact ⟨by rw [attrsOK_false hlt (aok_no2 (by rw [Hy.out]; exact e2))]; rfl, nx (nx hb b0) b1⟩
        | true =>
          rw [e2] at c66
          cases q with
          | zero =>
            rw [Nat.zero_mul, Nat.add_zero] at hc hd
            go_wp2_with (first | (go_at_call 152; refine c67.mono ?_; rintro e w' ⟨rfl, rfl⟩) | (go_at_call 56; refine c66.mono ?_; rintro e w1 ⟨rfl, b1⟩))
            go_quiet (fail)
            go_wp2_with fail
            go_roundw
            all_goals first
              | (case rel =>
                  refine ⟨1, by omega, by go_num, fun j hj hj1 => ?_, drewN_below (nx (nx hb b0) b1) nq⟩
                  obtain rfl : j = 0 := by omega
                  exact aok_yes0 (by rw [Hx.out]; exact e1) (by rw [Hy.out]; exact e2))
              | (case measure => simp only [intOf]; omega)
          | succ j =>
            obtain ⟨g', o', E, -, hp, -⟩ := attr_at hN (show j < n.length by omega)
            obtain ⟨rfl, rfl⟩ : g = g' ∧ o = o' := by cases E; exact ⟨rfl, rfl⟩
            have hp := below_cell hp (nx hb b0)
            obtain ⟨p, hp'⟩ : ∃ p, (n[j]'(by omega)).1 = p := ⟨_, rfl⟩
            rw [hp'] at hp
            have Hp : Hid ((n[j]'(by omega)).1 = p) := hp'
            clear hp' E
            have hge := cmpB_ge p x
            have c59 := fun w => cmp_c p x w
            generalize cmpB p x = cc at *
            cases e3 : lt p x with
            | false =>
              rw [e3] at hge
              have hge : decide ((0 : Int) ≤ cc) = true := hge
              go_wp2_with (first | (go_at_call 152; refine c67.mono ?_; rintro e w' ⟨rfl, rfl⟩) | (go_at_call 56; refine c66.mono ?_; rintro e w1 ⟨rfl, b1⟩; have hp1 := below_cell hp b1; have k01 := below_cell k0 b1))
              go_quiet ((go_at_call 163; exact Calls.quiet_of_same (c59 _)))
              go_wp2_with fail
              go_ret
              exact ⟨by rw [attrsOK_false hlt (aok_no3 (by rw [Hx.out, Hp.out]; exact e3))]; rfl, drewN_below (nx (nx hb b0) b1) nq⟩
            | true =>
              rw [e3] at hge
              have hge : decide ((0 : Int) ≤ cc) = false := hge
              go_wp2_with (first | (go_at_call 152; refine c67.mono ?_; rintro e w' ⟨rfl, rfl⟩) | (go_at_call 56; refine c66.mono ?_; rintro e w1 ⟨rfl, b1⟩; have hp1 := below_cell hp b1; have k01 := below_cell k0 b1))
              go_quiet ((go_at_call 163; exact Calls.quiet_of_same (c59 _)))
              go_wp2_with fail
              go_roundw
              all_goals first
                | (case rel =>
                    refine ⟨j + 2, by omega, by go_num, fun i hi hi1 => ?_, drewN_below (nx (nx hb b0) b1) nq⟩
                    by_cases ei : i = j + 1
                    · subst ei
                      exact aok_yes (by rw [Hx.out]; exact e1) (by rw [Hy.out]; exact e2) (by rw [Hx.out, Hp.out]; exact e3)
                    · exact HA.out i hi (by omega))
                | (case measure => simp only [intOf]; omega)
    · have hlt' : decide ((q : Int) < (n.length : Int)) = false := by simp; omega
      go_wp2_with fail
      go_ret
      exact ⟨by rw [attrsOK_true fun i hi => hall i hi (by omega)]; rfl, hb⟩
end Go.Proofs.Ytgknjjaemjkloaa.TAttrs

namespace Go.Proofs.Ytgknjjaemjkloaa.TMay
open Go.RowKit Go.Proofs.Ytgknjjaemjkloaa.TBase Go.Proofs.Ytgknjjaemjkloaa.TPure Go.Proofs.Ytgknjjaemjkloaa.TAttrs
set_option linter.unusedVariables false

theorem bx {w : World} {o : Obj} : Below w.heap.size w (w.alloc o) := (Below.refl _ _).alloc (Nat.le_refl _) _
set_option maxHeartbeats 800000 in
theorem mayBe_c (m : Nat) (v : Value) (c : T) (w : World) (h : In false All w m v c) :
    Calls Try.prog 158 #[v] w fun e w' => e = .returned (.bool (alone c)) ∧ Below w.heap.size w w' := by
  obtain ⟨m', nv, lv, -, rfl, hg, hs, hn, hl⟩ := h.shape
  have hn0 := hn
  have hl0 := hl
  obtain ⟨a1, c1, rfl, hk1, hk2, hk3, -⟩ := hn
  obtain ⟨a2, c2, rfl, hj1, hj2, hj3, -⟩ := hl
  have c66 := short_c c.s (by omega) (w.alloc (.cells #[.string c.g, .string c.s, .slice a1 c.n.length c1, .slice a2 c.l.length c2] 53))
  have c67 := UWord.tag_c c.g (by omega) (w.alloc (.cells #[.string c.g, .string c.s, .slice a1 c.n.length c1, .slice a2 c.l.length c2] 53))
  have c68 := attrs_c _ c.n _ (hn0.below (bx (o := .cells #[.string c.g, .string c.s, .slice a1 c.n.length c1, .slice a2 c.l.length c2] 53)))
  unfold alone
  clear hn0 hl0 h
  generalize c.n.length = n1 at *
  generalize c.l.length = n2 at *
  generalize UBase.word c.g 45 = b1 at *
  generalize attrsOK c.n = b2 at *
  generalize tg c.s = b3 at *
  generalize c.g = g at *
  generalize c.s = s at *
  have b0 := bx (w := w) (o := .cells #[.string g, .string s, .slice a1 n1 c1, .slice a2 n2 c2] 53)
  cases hge : g.toList.isEmpty with
  | true =>
    rw [if_pos rfl]
    by_cases h1 : n1 = 0
    · subst h1
      by_cases h2 : n2 = 0
      · subst h2
        go_enter Try.func158, Try.ntmps158
        go_wp2_with (first | (go_at_call 56; refine c66.mono ?_; rintro e w1 ⟨rfl, b1⟩))
        go_ret
        exact ⟨by simp, nx b0 b1⟩
      · have h2' : ((n2 : Int) == 0) = false := by simp; omega
        go_enter Try.func158, Try.ntmps158
        go_wp2_with fail
        go_ret
        exact ⟨by simp [h2], b0⟩
    · have h1' : ((n1 : Int) == 0) = false := by simp; omega
      go_enter Try.func158, Try.ntmps158
      go_wp2_with fail
      go_ret
      exact ⟨by simp [h1], b0⟩
  | false =>
    rw [if_neg (by simp)]
    cases b1 with
    | false =>
      go_enter Try.func158, Try.ntmps158
      go_wp2_with (first | (go_at_call 152; refine c67.mono ?_; rintro e w1 ⟨rfl, rfl⟩))
      go_ret
      exact ⟨by simp, b0⟩
    | true =>
      cases hse : s.toList.isEmpty with
      | false =>
        go_enter Try.func158, Try.ntmps158
        go_wp2_with (first | (go_at_call 152; refine c67.mono ?_; rintro e w1 ⟨rfl, rfl⟩))
        go_ret
        exact ⟨by simp, b0⟩
      | true =>
        go_enter Try.func158, Try.ntmps158
        go_wp2_with (first | (go_at_call 152; refine c67.mono ?_; rintro e w1 ⟨rfl, rfl⟩) | (go_at_call 160; refine c68.mono ?_; rintro e w2 ⟨rfl, b2⟩))
        go_ret
        exact ⟨by simp, nx b0 b2⟩
/-- The fault of a tree that is number k and lies at depth d. -/
def flt (c : T) (d k : Nat) : Nat := if 4096 < k then 702 else if 64 < d then 701 else if alone c = true then 0 else 700
theorem fault_c (m : Nat) (v : Value) (c : T) (d k : Nat) (hd : d ≤ 65) (hk : k ≤ 4097) (w : World) (h : In false All w m v c) :
    Calls Try.prog 151 #[v, .int .i64 d, .int .i64 k] w fun e w' => e = .returned (.int .i64 (flt c d k : Nat)) ∧ Below w.heap.size w w' := by
  obtain ⟨v0, v1, v2, v3, rfl, -⟩ := h.four
  have c60 := mayBe_c m _ c _ (h.below (bx (o := .cells #[v0, v1, v2, v3] 53)))
  unfold flt
  generalize alone c = b at *
  clear h
  by_cases h1 : 4096 < k
  · have h1' : decide ((4096 : Int) < (k : Int)) = true := by simp; omega
    rw [if_pos h1]
    go_enter Try.func151, Try.ntmps151
    go_wp2_with fail
    go_ret
    exact ⟨rfl, bx⟩
  · have h1' : decide ((4096 : Int) < (k : Int)) = false := by simp; omega
    rw [if_neg h1]
    by_cases h2 : 64 < d
    · have h2' : decide ((64 : Int) < (d : Int)) = true := by simp; omega
      rw [if_pos h2]
      go_enter Try.func151, Try.ntmps151
      go_wp2_with fail
      go_ret
      exact ⟨rfl, bx⟩
    · have h2' : decide ((64 : Int) < (d : Int)) = false := by simp; omega
      rw [if_neg h2]
      cases b with
      | true =>
        go_enter Try.func151, Try.ntmps151
        go_wp2_with (first | (go_at_call 158; refine c60.mono ?_; rintro e w1 ⟨rfl, b1⟩))
        go_ret
        exact ⟨rfl, nx bx b1⟩
      | false =>
        go_enter Try.func151, Try.ntmps151
        go_wp2_with (first | (go_at_call 158; refine c60.mono ?_; rintro e w1 ⟨rfl, b1⟩))
        go_ret
        exact ⟨rfl, nx bx b1⟩
end Go.Proofs.Ytgknjjaemjkloaa.TMay

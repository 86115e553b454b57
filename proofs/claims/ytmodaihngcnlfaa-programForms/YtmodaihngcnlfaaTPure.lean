/- What of a text, of an attribute and of a tree alone may be; contracts of short.Text, Good, cmp.Compare. -/
import Derived.Test.YtmodaihngcnlfaaTRow
import Derived.Test.YtmodaihngcnlfaaUOwn
import Derived.Test.YtmodaihngcnlfaaUWord
import Derived.Laws.Cover1
namespace Go.Proofs.Ytmodaihngcnlfaa.TPure
open Go.RowKit Go.Proofs.Ytmodaihngcnlfaa.TBase Go.Proofs.Ytmodaihngcnlfaa.UBase Go.Proofs.Ytmodaihngcnlfaa.UValid Go.Proofs.Ytmodaihngcnlfaa.UOwn
set_option linter.unusedVariables false

/-- A text that may be. -/
def tg (s : ByteArray) : Bool := decide (s.size ≤ 4096) && (verr s == 0)
theorem iter_below (w : World) (s : ByteArray) (p : Nat) : Below w.heap.size w (w.iter s p) := (Below.refl _ w).alloc (Nat.le_refl _) _
theorem verr_cases (s : ByteArray) : verr s = 0 ∨ verr s = 300 := by
  cases h : bad s 0 with
  | none => exact .inl (verr_none h).2
  | some i => exact .inr (verr_some h).2
theorem short_c (s : ByteArray) (hs : s.size ≤ 140737488351232) (w : World) :
    Calls Try.prog 92 #[.string s] w fun r w' => r = .returned (.bool (tg s)) ∧ Below w.heap.size w w' := by
  have c71 := valid_c s (by omega) w
  by_cases h : s.size ≤ 4096
  · have e : tg s = (verr s == 0) := by simp [tg, h]
    rw [e]
    have hv := verr_cases s
    generalize verr s = x at *
    generalize vat s = y at *
    have h' : decide ((4096 : Int) < (s.size : Int)) = false := decide_eq_false (by omega)
    clear e
    rcases hv with rfl | rfl
    · go_enter Try.func92, Try.ntmps92
      go_wp2_with (first | (go_at_call 51; refine c71.mono ?_; rintro e w' ⟨rfl, p, rfl⟩))
      go_ret
      exact ⟨rfl, iter_below _ _ _⟩
    · go_enter Try.func92, Try.ntmps92
      go_wp2_with (first | (go_at_call 51; refine c71.mono ?_; rintro e w' ⟨rfl, p, rfl⟩))
      go_ret
      exact ⟨rfl, iter_below _ _ _⟩
  · have e : tg s = false := by simp [tg, h]
    rw [e]
    have h' : decide ((4096 : Int) < (s.size : Int)) = true := decide_eq_true (by omega)
    clear c71 e
    go_enter Try.func92, Try.ntmps92
    go_wp2_with fail
    go_ret
    exact ⟨rfl, Below.refl _ _⟩
/-- The order of texts, and what Compare says. -/
def lt (a b : ByteArray) : Bool := Op.bytesLess a.toList b.toList
def eqB (a b : ByteArray) : Bool := a.toList == b.toList
theorem less_irrefl : ∀ (x : List UInt8), Op.bytesLess x x = false
  | [] => rfl
  | a :: x => by simp [Op.bytesLess, less_irrefl x]
theorem list_eq (a : ByteArray) : a.toList = a.data.toList := by
  rw [ByteArray.toList_eq]
theorem eqB_eq {a b : ByteArray} : eqB a b = true ↔ a = b := by
  unfold eqB
  constructor
  · intro h
    have h := eq_of_beq h
    rw [list_eq, list_eq] at h
    exact ByteArray.ext (Array.toList_inj.1 h)
  · rintro rfl
    simp
def cmpB (a b : ByteArray) : Int := if lt a b = true then -1 else if eqB a b = true then 0 else 1
theorem nan_c (a : ByteArray) (w : World) : Calls Try.prog 99 #[.string a] w fun r w' => r = .returned (.bool false) ∧ w' = w := by
  go_enter Try.func99, Try.ntmps99
  go_wp2_with fail
  go_ret
  exact ⟨rfl, rfl⟩
set_option maxRecDepth 20000 in
theorem cmp_c (a b : ByteArray) (w : World) : Calls Try.prog 96 #[.string a, .string b] w fun r w' => r = .returned (.int .i64 (cmpB a b)) ∧ w' = w := by
  have c1 := nan_c a w
  have c2 := nan_c b w
  cases h1 : Op.bytesLess a.toList b.toList with
  | true =>
    have e : cmpB a b = -1 := by simp [cmpB, lt, h1]
    rw [e]
    go_enter Try.func96, Try.ntmps96
    go_wp2_with (first | (go_at_call 99; first | (refine c1.mono ?_; rintro e w' ⟨rfl, rfl⟩) | (refine c2.mono ?_; rintro e w' ⟨rfl, rfl⟩)))
    go_ret
    exact ⟨rfl, rfl⟩
  | false =>
    cases h2 : (a.toList == b.toList) with
    | true =>
      have e : cmpB a b = 0 := by simp only [cmpB, lt, eqB, h1, h2]; rfl
      rw [e]
      go_enter Try.func96, Try.ntmps96
      go_wp2_with (first | (go_at_call 99; first | (refine c1.mono ?_; rintro e w' ⟨rfl, rfl⟩) | (refine c2.mono ?_; rintro e w' ⟨rfl, rfl⟩)))
      go_ret
      exact ⟨rfl, rfl⟩
    | false =>
      have e : cmpB a b = 1 := by simp only [cmpB, lt, eqB, h1, h2]; rfl
      rw [e]
      go_enter Try.func96, Try.ntmps96
      go_wp2_with (first | (go_at_call 99; first | (refine c1.mono ?_; rintro e w' ⟨rfl, rfl⟩) | (refine c2.mono ?_; rintro e w' ⟨rfl, rfl⟩)))
      go_ret
      exact ⟨rfl, rfl⟩
theorem cmpB_ge (a b : ByteArray) : decide ((0 : Int) ≤ cmpB a b) = !lt a b := by
  unfold cmpB
  cases lt a b with
  | true => simp
  | false =>
    cases eqB a b <;> simp
theorem cmpB_zero (a b : ByteArray) : (cmpB a b == 0) = eqB a b := by
  unfold cmpB
  cases h : eqB a b with
  | true =>
    have : lt a b = false := by
      rw [eqB_eq.1 h]
      exact less_irrefl _
    rw [this]
    rfl
  | false =>
    cases lt a b <;> rfl
/-- An attribute, behind the one ahead of it; a row of them; a tree, but for its kids. -/
def aok (n : List (ByteArray × ByteArray)) (i : Nat) (h : i < n.length) : Bool := UBase.word n[i].1 45 && (tg n[i].2 && (decide (i = 0) || lt (n[i - 1]'(by omega)).1 n[i].1))
def attrsOK (n : List (ByteArray × ByteArray)) : Bool := decide (∀ i (h : i < n.length), aok n i h = true)
def alone (c : T) : Bool := if c.g.toList.isEmpty = true then decide (c.n.length = 0) && (decide (c.l.length = 0) && tg c.s) else UBase.word c.g 45 && (c.s.toList.isEmpty && attrsOK c.n)
theorem attrsOK_true {n : List (ByteArray × ByteArray)} (h : ∀ i (h : i < n.length), aok n i h = true) : attrsOK n = true := decide_eq_true h
theorem attrsOK_false {n : List (ByteArray × ByteArray)} {i : Nat} (hi : i < n.length) (h : aok n i hi = false) : attrsOK n = false := decide_eq_false fun H => by rw [H i hi] at h; cases h
/-- A box that is made and then written. -/
theorem box2 (w : World) (a b x y : Value) (t : TypeId) : ((w.alloc (.cells #[a, b] t)).setCell ⟨w.heap.size, 0, none⟩ x).setCell ⟨w.heap.size, 1, none⟩ y = w.alloc (.cells #[x, y] t) := by
  simp only [World.setCell, World.alloc]
  congr 1
  apply Array.ext_getElem?
  intro i
  by_cases h : i = w.heap.size
  · subst h
    simp only [Array.getElem?_modify, Array.getElem?_push_size, if_true, Option.map_some]
    rfl
  · simp only [Array.getElem?_modify, if_neg (Ne.symm h), Array.getElem?_push, if_neg h]
theorem box4 (w : World) (a b c d x y z u : Value) (t : TypeId) : ((((w.alloc (.cells #[a, b, c, d] t)).setCell ⟨w.heap.size, 0, none⟩ x).setCell ⟨w.heap.size, 1, none⟩ y).setCell ⟨w.heap.size, 2, none⟩ z).setCell ⟨w.heap.size, 3, none⟩ u = w.alloc (.cells #[x, y, z, u] t) := by
  simp only [World.setCell, World.alloc]
  congr 1
  apply Array.ext_getElem?
  intro i
  by_cases h : i = w.heap.size
  · subst h
    simp only [Array.getElem?_modify, Array.getElem?_push_size, if_true, Option.map_some]
    rfl
  · simp only [Array.getElem?_modify, if_neg (Ne.symm h), Array.getElem?_push, if_neg h]
end Go.Proofs.Ytmodaihngcnlfaa.TPure

import Derived.Laws.Cover1
import Derived.Test.YtaiackmmmlhgbaaGreatPR02
import Derived.Test.YtaiackmmmlhgbaaGreatPR03
open Go.Proofs.Tryz
set_option linter.unusedVariables false
set_option maxRecDepth 20000
namespace Go.Proofs.YtaiackmmmlhgbaaGreat.TPure
open Go.RowKit TBase UBase UValid UOwn
def tg (s : ByteArray) : Bool := decide (s.size <= 4096) && (verr s == 0)
theorem iter_below (w : World) (s : ByteArray) (p : Nat) : Below w.heap.size w (w.iter s p) := (Below.refl _ w).alloc (Nat.le_refl _) _
theorem verr_cases (s : ByteArray) : verr s = 0 \/ verr s = 300 := by
  cases h : bad s 0 with
  | none => exact .inl (verr_none h).2
  | some i => exact .inr (verr_some h).2
theorem short_c (s : ByteArray) (hs : s.size <= 140737488351232) (w : World) :
    Calls prog 85 #[.string s] w fun r w' => r = .returned (.bool (tg s)) /\ Below w.heap.size w w' := by
  have c71 := valid_c s (by omega) w
  by_cases h : s.size <= 4096
  · have e : tg s = (verr s == 0) := by simp [tg, h]
    rw [e]
    have hv := verr_cases s
    generalize verr s = x at *
    generalize vat s = y at *
    have h' : decide ((4096 : Int) < (s.size : Int)) = false := decide_eq_false (by omega)
    clear e
    rcases hv with rfl | rfl
    · go_enter func85, ntmps85
      go_wp2_with (first | (go_at_call 107; refine c71.mono ?_; rintro e w' ⟨rfl, p, rfl⟩))
      go_ret
      exact ⟨rfl, iter_below _ _ _⟩
    · go_enter func85, ntmps85
      go_wp2_with (first | (go_at_call 107; refine c71.mono ?_; rintro e w' ⟨rfl, p, rfl⟩))
      go_ret
      exact ⟨rfl, iter_below _ _ _⟩
  · have e : tg s = false := by simp [tg, h]
    rw [e]
    have h' : decide ((4096 : Int) < (s.size : Int)) = true := decide_eq_true (by omega)
    clear c71 e
    go_enter func85, ntmps85
    go_wp2_with fail
    go_ret
    exact ⟨rfl, Below.refl _ _⟩
theorem good_c (s : ByteArray) (hs : s.size <= 140737488351232) (w : World) :
    Calls prog 67 #[.string s] w fun r w' => r = .returned (.bool (tg s)) /\ w' = w := by
  have c72 := rvalid_c s (by omega) w
  by_cases h : s.size <= 4096
  · have e : tg s = (verr s == 0) := by simp [tg, h]
    rw [e]
    have hv := verr_cases s
    generalize verr s = x at *
    generalize vat s = y at *
    have h' : decide ((4096 : Int) < (s.size : Int)) = false := decide_eq_false (by omega)
    clear e
    rcases hv with rfl | rfl
    · go_enter func67, ntmps67
      go_wp2_with (first | (go_at_call 115; refine c72.mono ?_; rintro e w' ⟨rfl, rfl⟩))
      go_ret
      exact ⟨rfl, rfl⟩
    · go_enter func67, ntmps67
      go_wp2_with (first | (go_at_call 115; refine c72.mono ?_; rintro e w' ⟨rfl, rfl⟩))
      go_ret
      exact ⟨rfl, rfl⟩
  · have e : tg s = false := by simp [tg, h]
    rw [e]
    have h' : decide ((4096 : Int) < (s.size : Int)) = true := decide_eq_true (by omega)
    clear c72 e
    go_enter func67, ntmps67
    go_wp2_with fail
    go_ret
    exact ⟨rfl, rfl⟩
def lt (a b : ByteArray) : Bool := Op.bytesLess a.toList b.toList
def eqB (a b : ByteArray) : Bool := a.toList == b.toList
theorem list_eq (a : ByteArray) : a.toList = a.data.toList := by
  rw [ByteArray.toList_eq]
def cmpB (a b : ByteArray) : Int := if lt a b = true then -1 else if eqB a b = true then 0 else 1
theorem nan_c (a : ByteArray) (w : World) : Calls prog 231 #[.string a] w fun r w' => r = .returned (.bool false) /\ w' = w := by
  go_enter func231, ntmps231
  go_wp2_with fail
  go_ret
  exact ⟨rfl, rfl⟩
theorem cmp_c (a b : ByteArray) (w : World) : Calls prog 230 #[.string a, .string b] w fun r w' => r = .returned (.int .i64 (cmpB a b)) /\ w' = w := by
  have c1 := nan_c a w
  have c2 := nan_c b w
  cases h1 : Op.bytesLess a.toList b.toList with
  | true =>
    have e : cmpB a b = -1 := by simp [cmpB, lt, h1]
    rw [e]
    go_enter func230, ntmps230
    go_wp2_with (first | (go_at_call 231; first | (refine c1.mono ?_; rintro e w' ⟨rfl, rfl⟩) | (refine c2.mono ?_; rintro e w' ⟨rfl, rfl⟩)))
    go_ret
    exact ⟨rfl, rfl⟩
  | false =>
    cases h2 : (a.toList == b.toList) with
    | true =>
      have e : cmpB a b = 0 := by simp only [cmpB, lt, eqB, h1, h2]; rfl
      rw [e]
      go_enter func230, ntmps230
      go_wp2_with (first | (go_at_call 231; first | (refine c1.mono ?_; rintro e w' ⟨rfl, rfl⟩) | (refine c2.mono ?_; rintro e w' ⟨rfl, rfl⟩)))
      go_ret
      exact ⟨rfl, rfl⟩
    | false =>
      have e : cmpB a b = 1 := by simp only [cmpB, lt, eqB, h1, h2]; rfl
      rw [e]
      go_enter func230, ntmps230
      go_wp2_with (first | (go_at_call 231; first | (refine c1.mono ?_; rintro e w' ⟨rfl, rfl⟩) | (refine c2.mono ?_; rintro e w' ⟨rfl, rfl⟩)))
      go_ret
      exact ⟨rfl, rfl⟩
theorem cmpB_ge (a b : ByteArray) : decide ((0 : Int) <= cmpB a b) = !lt a b := by
  unfold cmpB
  cases lt a b with
  | true => simp
  | false =>
    cases eqB a b <;> simp
def aok (n : List (ByteArray × ByteArray)) (i : Nat) (h : i < n.length) : Bool := UBase.word n[i].1 45 && (tg n[i].2 && (decide (i = 0) || lt (n[i - 1]'(by omega)).1 n[i].1))
def attrsOK (n : List (ByteArray × ByteArray)) : Bool := decide (∀ i (h : i < n.length), aok n i h = true)
def alone (c : T) : Bool := if c.g.toList.isEmpty = true then decide (c.n.length = 0) && (decide (c.l.length = 0) && tg c.s) else UBase.word c.g 45 && (c.s.toList.isEmpty && attrsOK c.n)
theorem attrsOK_true {n : List (ByteArray × ByteArray)} (h : ∀ i (h : i < n.length), aok n i h = true) : attrsOK n = true := decide_eq_true h
theorem attrsOK_false {n : List (ByteArray × ByteArray)} {i : Nat} (hi : i < n.length) (h : aok n i hi = false) : attrsOK n = false := decide_eq_false fun H => by rw [H i hi] at h; cases h
theorem box4 (w : World) (a b c d x y z u : Value) (t : TypeId) : ((((w.alloc (.cells #[a, b, c, d] t)).setCell ⟨w.heap.size, 0, none⟩ x).setCell ⟨w.heap.size, 1, none⟩ y).setCell ⟨w.heap.size, 2, none⟩ z).setCell ⟨w.heap.size, 3, none⟩ u = w.alloc (.cells #[x, y, z, u] t) := by
  simp only [World.setCell, World.alloc]
  congr 1
  apply Array.ext_getElem?
  intro i
  by_cases h : i = w.heap.size
  · subst h
    simp only [Array.getElem?_modify, Array.getElem?_push_size, if_true, Option.map_some]
    rfl
  · simp only [Array.getElem?_modify, if_neg (Ne.symm h), Array.getElem?_push, if_neg h]
end Go.Proofs.YtaiackmmmlhgbaaGreat.TPure

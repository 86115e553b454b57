/- Whether two values are the same: the plain words, and contracts of slices.Equal, slices.EqualFunc and the program's Same. -/
import Derived.Test.YthjbknncbhkinaaGreatDoorRow
import Derived.LoopTactic
import Derived.LoopN
namespace Go.Proofs.YthjbknncbhkinaaGreatDoor.Eq
open Go.RowKit Go.Proofs.YthjbknncbhkinaaGreatDoor.Base
set_option linter.unusedVariables false

/-- Two texts are the same. -/
def eqB (a b : ByteArray) : Bool := a.toList == b.toList
def eqN : List ByteArray → List ByteArray → Bool
  | [], [] => true
  | a :: xs, b :: bs => eqB a b && eqN xs bs
  | _, _ => false
def sameL : List C → List C → Bool
  | [], [] => true
  | .mk k b i s n l :: cs, .mk k' b' i' s' n' l' :: ds => (decide (k = k') && (if k = 2 then b == b' else if k = 3 then i == i' else if k = 4 then eqB s s' else if k = 5 then sameL l l' else if k = 6 then eqN n n' && sameL l l' else true)) && sameL cs ds
  | _, _ => false
def same : C → C → Bool
  | .mk k b i s n l, .mk k' b' i' s' n' l' => decide (k = k') && (if k = 2 then b == b' else if k = 3 then i == i' else if k = 4 then eqB s s' else if k = 5 then sameL l l' else if k = 6 then eqN n n' && sameL l l' else true)
theorem sameL_cons (c d : C) (cs ds : List C) : sameL (c :: cs) (d :: ds) = (same c d && sameL cs ds) := by
  obtain ⟨k, b, i, s, n, l⟩ := c
  obtain ⟨k', b', i', s', n', l'⟩ := d
  rw [sameL, same]
theorem eqB_eq {a b : ByteArray} : eqB a b = true ↔ a = b := by
  unfold eqB
  rw [beq_iff_eq, ByteArray.toList_eq, ByteArray.toList_eq]
  constructor
  · intro h
    apply ByteArray.ext
    exact Array.toList_inj.1 h
  · rintro rfl; rfl
theorem eqN_len {L M : List ByteArray} (h : L.length ≠ M.length) : eqN L M = false := by
  induction L generalizing M with
  | nil => cases M with
    | nil => simp at h
    | cons b bs => rfl
  | cons a xs ih => cases M with
    | nil => rfl
    | cons b bs =>
      rw [eqN, ih (by simpa using h)]
      simp
theorem eqN_iff {L M : List ByteArray} (h : L.length = M.length) : eqN L M = true ↔ ∀ j (h1 : j < L.length) (h2 : j < M.length), eqB L[j] M[j] = true := by
  induction L generalizing M with
  | nil => cases M with
    | nil => simp [eqN]
    | cons b bs => simp at h
  | cons a xs ih => cases M with
    | nil => simp at h
    | cons b bs =>
      rw [eqN, Bool.and_eq_true, ih (by simpa using h)]
      constructor
      · rintro ⟨h1, h2⟩ j hj hj'
        cases j with
        | zero => exact h1
        | succ j => exact h2 j (by simpa using hj) (by simpa using hj')
      · intro hh
        exact ⟨hh 0 (by simp) (by simp), fun j h1 h2 => hh (j + 1) (by simpa using h1) (by simpa using h2)⟩
theorem sameL_len {L M : List C} (h : L.length ≠ M.length) : sameL L M = false := by
  induction L generalizing M with
  | nil => cases M with
    | nil => simp at h
    | cons b bs => simp [sameL]
  | cons a xs ih => cases M with
    | nil => simp [sameL]
    | cons b bs =>
      rw [sameL_cons, ih (by simpa using h)]
      simp
theorem sameL_iff {L M : List C} (h : L.length = M.length) : sameL L M = true ↔ ∀ j (h1 : j < L.length) (h2 : j < M.length), same L[j] M[j] = true := by
  induction L generalizing M with
  | nil => cases M with
    | nil => simp [sameL]
    | cons b bs => simp at h
  | cons a xs ih => cases M with
    | nil => simp at h
    | cons b bs =>
      rw [sameL_cons, Bool.and_eq_true, ih (by simpa using h)]
      constructor
      · rintro ⟨h1, h2⟩ j hj hj'
        cases j with
        | zero => exact h1
        | succ j => exact h2 j (by simpa using hj) (by simpa using hj')
      · intro hh
        exact ⟨hh 0 (by simp) (by simp), fun j h1 h2 => hh (j + 1) (by simpa using h1) (by simpa using h2)⟩
theorem false_of {b : Bool} (h : ¬ b = true) : b = false := by simpa using h

theorem eqT_c (u v : Value) (L M : List ByteArray) (w : World) (hu : Tx false All w u L) (hv : Tx false All w v M) :
    Calls Tryz.prog 142 #[u, v] w fun e w' => e = .returned (.bool (eqN L M)) ∧ Below w.heap.size w w' := by
  obtain ⟨a, cap, rfl, hlc, hm, hlen, hsz, hnil, hN⟩ := hu.out
  obtain ⟨a', cap', rfl, hlc', hm', hlen', hsz', hnil', hN'⟩ := hv.out
  clear hu hv hsz hsz'
  by_cases hne : L.length = M.length
  · have HI := eqN_iff hne
    generalize eqN L M = R at *
    have hne' : ((L.length : Int) != (M.length : Int)) = false := by simp; omega
    have HH : Hid (R = true ↔ ∀ j (h1 : j < L.length) (h2 : j < M.length), eqB L[j] M[j] = true) := HI
    clear HI
    go_enter Tryz.func142, Tryz.ntmps142
    go_wp2_with fail
    go_loopw [13] (fun i wr => ∃ q : Nat, q ≤ L.length ∧ i = .int .i64 q ∧ (∀ j (h1 : j < L.length) (h2 : j < M.length), j < q → eqB L[j] M[j] = true) ∧ Below w.heap.size w wr) (fun i _ => L.length - (intOf i).toNat)
    case atStart => exact ⟨0, by omega, rfl, fun j _ _ h => by omega, Below.refl _ _⟩
    case round =>
      obtain ⟨q, hq, rfl, hall, hb⟩ := hrel
      by_cases hlt : q < L.length
      · have hlt2 : q < M.length := by omega
        obtain ⟨g, o, rfl, -, hc⟩ := name_at hN hlt
        obtain ⟨g', o', rfl, -, hc'⟩ := name_at hN' hlt2
        have hc := below_cell hc hb
        have hc' := below_cell hc' hb
        have hb' := hb.drew
        have HA : Hid (∀ j (h1 : j < L.length) (h2 : j < M.length), j < q → eqB L[j] M[j] = true) := hall
        obtain ⟨x, hx⟩ : ∃ x, L[q] = x := ⟨_, rfl⟩
        obtain ⟨y, hy⟩ : ∃ y, M[q] = y := ⟨_, rfl⟩
        have HX : Hid (L[q] = x) := hx
        have HY : Hid (M[q] = y) := hy
        rw [hx] at hc
        rw [hy] at hc'
        clear hN hN' hall hx hy
        cases he : (x.toList == y.toList) with
        | true =>
          have he' : eqB x y = true := he
          go_wp2_with fail
          go_region
          all_goals go_wp2_with fail
          all_goals go_roundw
          all_goals first
            | (case rel =>
                refine ⟨q + 1, by omega, by go_num, fun j h1 h2 hj => ?_, hb'⟩
                by_cases e : j = q
                · subst e
                  rw [HX.out, HY.out]
                  exact he'
                · exact HA.out j h1 h2 (by omega))
            | (case measure => simp only [intOf]; omega)
        | false =>
          have he' : ¬ eqB x y = true := by unfold eqB; rw [he]; simp
          have hR : R = false := false_of fun h => he' (by have := HH.out.1 h q hlt hlt2; rwa [HX.out, HY.out] at this)
          subst hR
          go_wp2_with fail
          go_region
          all_goals go_wp2_with fail
          all_goals go_ret
          all_goals exact ⟨rfl, hb'⟩
      · have hlt' : decide ((q : Int) < (L.length : Int)) = false := by simp; omega
        have hR : R = true := HH.out.2 fun j h1 h2 => hall j h1 h2 (by omega)
        subst hR
        clear hall
        go_wp2_with fail
        go_ret
        exact ⟨rfl, hb⟩
  · rw [eqN_len hne]
    have hne' : ((L.length : Int) != (M.length : Int)) = true := by simp; omega
    go_enter Tryz.func142, Tryz.ntmps142
    go_wp2_with fail
    go_ret
    exact ⟨rfl, Below.refl _ _⟩
end Go.Proofs.YthjbknncbhkinaaGreatDoor.Eq

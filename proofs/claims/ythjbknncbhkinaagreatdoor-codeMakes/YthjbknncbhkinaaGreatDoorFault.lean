/- What may not be of a value alone: contract of fault. -/
import Derived.Test.YthjbknncbhkinaaGreatDoorRow
import Derived.Test.YthjbknncbhkinaaGreatDoorUOwn
import Derived.Test.YthjbknncbhkinaaGreatDoorEq
import Derived.Maps.OwnSet
import Derived.LoopTactic
import Derived.LoopN
namespace Go.Proofs.YthjbknncbhkinaaGreatDoor.Pure
open Go.RowKit Go.Proofs.YthjbknncbhkinaaGreatDoor.Base Go.Proofs.YthjbknncbhkinaaGreatDoor.UBase Go.Proofs.YthjbknncbhkinaaGreatDoor.UValid Go.Proofs.YthjbknncbhkinaaGreatDoor.UOwn
set_option linter.unusedVariables false

/-- A text that may be. -/
def tg (s : ByteArray) : Bool := decide (s.size ≤ 4096) && (verr s == 0)
theorem iter_below (w : World) (s : ByteArray) (p : Nat) : Below w.heap.size w (w.iter s p) := (Below.refl _ w).alloc (Nat.le_refl _) _
theorem verr_cases (s : ByteArray) : verr s = 0 ∨ verr s = 300 := by
  cases h : bad s 0 with
  | none => exact .inl (verr_none h).2
  | some i => exact .inr (verr_some h).2
theorem tmb_c (s : ByteArray) (hs : s.size ≤ 140737488351232) (w : World) :
    Calls Tryz.prog 50 #[.string s] w fun r w' => r = .returned (.bool (tg s)) ∧ Below w.heap.size w w' := by
  have c71 := valid_c s (by omega) w
  by_cases h : s.size ≤ 4096
  · have e : tg s = (verr s == 0) := by simp [tg, h]
    rw [e]
    have hv := verr_cases s
    generalize verr s = x at *
    generalize vat s = y at *
    have h' : decide ((4096 : Int) < (s.size : Int)) = false := decide_eq_false (by omega)
    clear e
    rcases hv with rfl | rfl
    · go_enter Tryz.func50, Tryz.ntmps50
      go_wp2_with (first | (go_at_call 72; refine c71.mono ?_; rintro e w' ⟨rfl, p, rfl⟩))
      go_ret
      exact ⟨rfl, iter_below _ _ _⟩
    · go_enter Tryz.func50, Tryz.ntmps50
      go_wp2_with (first | (go_at_call 72; refine c71.mono ?_; rintro e w' ⟨rfl, p, rfl⟩))
      go_ret
      exact ⟨rfl, iter_below _ _ _⟩
  · have e : tg s = false := by simp [tg, h]
    rw [e]
    have h' : decide ((4096 : Int) < (s.size : Int)) = true := decide_eq_true (by omega)
    clear c71 e
    go_enter Tryz.func50, Tryz.ntmps50
    go_wp2_with fail
    go_ret
    exact ⟨rfl, Below.refl _ _⟩
theorem good_c (s : ByteArray) (hs : s.size ≤ 140737488351232) (w : World) :
    Calls Tryz.prog 95 #[.string s] w fun r w' => r = .returned (.bool (tg s)) ∧ w' = w := by
  have c72 := rvalid_c s (by omega) w
  by_cases h : s.size ≤ 4096
  · have e : tg s = (verr s == 0) := by simp [tg, h]
    rw [e]
    have hv := verr_cases s
    generalize verr s = x at *
    generalize vat s = y at *
    have h' : decide ((4096 : Int) < (s.size : Int)) = false := decide_eq_false (by omega)
    clear e
    rcases hv with rfl | rfl
    · go_enter Tryz.func95, Tryz.ntmps95
      go_wp2_with (first | (go_at_call 120; refine c72.mono ?_; rintro e w' ⟨rfl, rfl⟩))
      go_ret
      exact ⟨rfl, rfl⟩
    · go_enter Tryz.func95, Tryz.ntmps95
      go_wp2_with (first | (go_at_call 120; refine c72.mono ?_; rintro e w' ⟨rfl, rfl⟩))
      go_ret
      exact ⟨rfl, rfl⟩
  · have e : tg s = false := by simp [tg, h]
    rw [e]
    have h' : decide ((4096 : Int) < (s.size : Int)) = true := decide_eq_true (by omega)
    clear c72 e
    go_enter Tryz.func95, Tryz.ntmps95
    go_wp2_with fail
    go_ret
    exact ⟨rfl, rfl⟩
/-- The fields that the kind does not use are zero. -/
def pu (k : Int) (b : Bool) (i : Int) (s : ByteArray) (n1 n2 : Nat) : Bool :=
  (decide (k = 2) || !b) && (decide (k = 3) || decide (i = 0)) && (decide (k = 4) || s.toList.isEmpty) && (decide (k = 5 ∨ k = 6) || decide (n2 = 0)) && (decide (k = 6) || decide (n1 = 0))
set_option maxHeartbeats 3200000 in
theorem pure_c (k : Int) (b : Bool) (i : Int) (s : ByteArray) (a1 a2 : Option Addr) (n1 n2 c1 c2 : Nat) (w : World) :
    Calls Tryz.prog 128 #[.agg #[.int .i64 k, .bool b, .int .i64 i, .string s, .slice a1 n1 c1, .slice a2 n2 c2]] w fun r w' => r = .returned (.bool (pu k b i s n1 n2)) ∧ Below w.heap.size w w' := by
  by_cases h2 : k = 2
  · subst h2
    by_cases hi : ¬ i = 0
    · have e : pu 2 b i s n1 n2 = false := by simp [pu, hi]
      rw [e]
      have hi' : (i == 0) = false := by simp [hi]
      clear e
      go_enter Tryz.func128, Tryz.ntmps128
      go_wp2_with fail
      go_ret
      exact ⟨rfl, (Below.refl _ w).alloc (Nat.le_refl _) _⟩
    have hi0 : i = 0 := Decidable.of_not_not hi
    subst hi0
    clear hi
    cases hs : s.toList.isEmpty with
    | false =>
      have e : pu 2 b 0 s n1 n2 = false := by simp only [pu, hs]; simp
      rw [e]
      clear e
      go_enter Tryz.func128, Tryz.ntmps128
      go_wp2_with fail
      go_ret
      exact ⟨rfl, (Below.refl _ w).alloc (Nat.le_refl _) _⟩
    | true =>
      by_cases hl : ¬ n2 = 0
      · have e : pu 2 b 0 s n1 n2 = false := by simp only [pu, hs]; simp [hl]
        rw [e]
        have hl' : ((n2 : Int) == 0) = false := by simp [hl]
        clear e
        go_enter Tryz.func128, Tryz.ntmps128
        go_wp2_with fail
        go_ret
        exact ⟨rfl, (Below.refl _ w).alloc (Nat.le_refl _) _⟩
      have hl0 : n2 = 0 := Decidable.of_not_not hl
      subst hl0
      clear hl
      by_cases hn : ¬ n1 = 0
      · have e : pu 2 b 0 s n1 0 = false := by simp only [pu, hs]; simp [hn]
        rw [e]
        have hn' : ((n1 : Int) == 0) = false := by simp [hn]
        clear e
        go_enter Tryz.func128, Tryz.ntmps128
        go_wp2_with fail
        go_ret
        exact ⟨rfl, (Below.refl _ w).alloc (Nat.le_refl _) _⟩
      have hn0 : n1 = 0 := Decidable.of_not_not hn
      subst hn0
      clear hn
      have e : pu 2 b 0 s 0 0 = true := by simp only [pu, hs]; simp
      rw [e]
      clear e
      go_enter Tryz.func128, Tryz.ntmps128
      go_wp2_with fail
      go_ret
      exact ⟨rfl, (Below.refl _ w).alloc (Nat.le_refl _) _⟩
  by_cases h3 : k = 3
  · subst h3
    cases b with
    | true =>
      have e : pu 3 true i s n1 n2 = false := by simp [pu]
      rw [e]
      clear e
      go_enter Tryz.func128, Tryz.ntmps128
      go_wp2_with fail
      go_ret
      exact ⟨rfl, (Below.refl _ w).alloc (Nat.le_refl _) _⟩
    | false =>
      cases hs : s.toList.isEmpty with
      | false =>
        have e : pu 3 false i s n1 n2 = false := by simp only [pu, hs]; simp
        rw [e]
        clear e
        go_enter Tryz.func128, Tryz.ntmps128
        go_wp2_with fail
        go_ret
        exact ⟨rfl, (Below.refl _ w).alloc (Nat.le_refl _) _⟩
      | true =>
        by_cases hl : ¬ n2 = 0
        · have e : pu 3 false i s n1 n2 = false := by simp only [pu, hs]; simp [hl]
          rw [e]
          have hl' : ((n2 : Int) == 0) = false := by simp [hl]
          clear e
          go_enter Tryz.func128, Tryz.ntmps128
          go_wp2_with fail
          go_ret
          exact ⟨rfl, (Below.refl _ w).alloc (Nat.le_refl _) _⟩
        have hl0 : n2 = 0 := Decidable.of_not_not hl
        subst hl0
        clear hl
        by_cases hn : ¬ n1 = 0
        · have e : pu 3 false i s n1 0 = false := by simp only [pu, hs]; simp [hn]
          rw [e]
          have hn' : ((n1 : Int) == 0) = false := by simp [hn]
          clear e
          go_enter Tryz.func128, Tryz.ntmps128
          go_wp2_with fail
          go_ret
          exact ⟨rfl, (Below.refl _ w).alloc (Nat.le_refl _) _⟩
        have hn0 : n1 = 0 := Decidable.of_not_not hn
        subst hn0
        clear hn
        have e : pu 3 false i s 0 0 = true := by simp only [pu, hs]; simp
        rw [e]
        clear e
        go_enter Tryz.func128, Tryz.ntmps128
        go_wp2_with fail
        go_ret
        exact ⟨rfl, (Below.refl _ w).alloc (Nat.le_refl _) _⟩
  by_cases h4 : k = 4
  · subst h4
    cases b with
    | true =>
      have e : pu 4 true i s n1 n2 = false := by simp [pu]
      rw [e]
      clear e
      go_enter Tryz.func128, Tryz.ntmps128
      go_wp2_with fail
      go_ret
      exact ⟨rfl, (Below.refl _ w).alloc (Nat.le_refl _) _⟩
    | false =>
      by_cases hi : ¬ i = 0
      · have e : pu 4 false i s n1 n2 = false := by simp [pu, hi]
        rw [e]
        have hi' : (i == 0) = false := by simp [hi]
        clear e
        go_enter Tryz.func128, Tryz.ntmps128
        go_wp2_with fail
        go_ret
        exact ⟨rfl, (Below.refl _ w).alloc (Nat.le_refl _) _⟩
      have hi0 : i = 0 := Decidable.of_not_not hi
      subst hi0
      clear hi
      by_cases hl : ¬ n2 = 0
      · have e : pu 4 false 0 s n1 n2 = false := by simp only [pu]; simp [hl]
        rw [e]
        have hl' : ((n2 : Int) == 0) = false := by simp [hl]
        clear e
        go_enter Tryz.func128, Tryz.ntmps128
        go_wp2_with fail
        go_ret
        exact ⟨rfl, (Below.refl _ w).alloc (Nat.le_refl _) _⟩
      have hl0 : n2 = 0 := Decidable.of_not_not hl
      subst hl0
      clear hl
      by_cases hn : ¬ n1 = 0
      · have e : pu 4 false 0 s n1 0 = false := by simp only [pu]; simp [hn]
        rw [e]
        have hn' : ((n1 : Int) == 0) = false := by simp [hn]
        clear e
        go_enter Tryz.func128, Tryz.ntmps128
        go_wp2_with fail
        go_ret
        exact ⟨rfl, (Below.refl _ w).alloc (Nat.le_refl _) _⟩
      have hn0 : n1 = 0 := Decidable.of_not_not hn
      subst hn0
      clear hn
      have e : pu 4 false 0 s 0 0 = true := by simp only [pu]; simp
      rw [e]
      clear e
      go_enter Tryz.func128, Tryz.ntmps128
      go_wp2_with fail
      go_ret
      exact ⟨rfl, (Below.refl _ w).alloc (Nat.le_refl _) _⟩
  by_cases h5 : k = 5
  · subst h5
    cases b with
    | true =>
      have e : pu 5 true i s n1 n2 = false := by simp [pu]
      rw [e]
      clear e
      go_enter Tryz.func128, Tryz.ntmps128
      go_wp2_with fail
      go_ret
      exact ⟨rfl, (Below.refl _ w).alloc (Nat.le_refl _) _⟩
    | false =>
      by_cases hi : ¬ i = 0
      · have e : pu 5 false i s n1 n2 = false := by simp [pu, hi]
        rw [e]
        have hi' : (i == 0) = false := by simp [hi]
        clear e
        go_enter Tryz.func128, Tryz.ntmps128
        go_wp2_with fail
        go_ret
        exact ⟨rfl, (Below.refl _ w).alloc (Nat.le_refl _) _⟩
      have hi0 : i = 0 := Decidable.of_not_not hi
      subst hi0
      clear hi
      cases hs : s.toList.isEmpty with
      | false =>
        have e : pu 5 false 0 s n1 n2 = false := by simp only [pu, hs]; simp
        rw [e]
        clear e
        go_enter Tryz.func128, Tryz.ntmps128
        go_wp2_with fail
        go_ret
        exact ⟨rfl, (Below.refl _ w).alloc (Nat.le_refl _) _⟩
      | true =>
        by_cases hn : ¬ n1 = 0
        · have e : pu 5 false 0 s n1 n2 = false := by simp only [pu, hs]; simp [hn]
          rw [e]
          have hn' : ((n1 : Int) == 0) = false := by simp [hn]
          clear e
          go_enter Tryz.func128, Tryz.ntmps128
          go_wp2_with fail
          go_ret
          exact ⟨rfl, (Below.refl _ w).alloc (Nat.le_refl _) _⟩
        have hn0 : n1 = 0 := Decidable.of_not_not hn
        subst hn0
        clear hn
        have e : pu 5 false 0 s 0 n2 = true := by simp only [pu, hs]; simp
        rw [e]
        clear e
        go_enter Tryz.func128, Tryz.ntmps128
        go_wp2_with fail
        go_ret
        exact ⟨rfl, (Below.refl _ w).alloc (Nat.le_refl _) _⟩
  by_cases h6 : k = 6
  · subst h6
    cases b with
    | true =>
      have e : pu 6 true i s n1 n2 = false := by simp [pu]
      rw [e]
      clear e
      go_enter Tryz.func128, Tryz.ntmps128
      go_wp2_with fail
      go_ret
      exact ⟨rfl, (Below.refl _ w).alloc (Nat.le_refl _) _⟩
    | false =>
      by_cases hi : ¬ i = 0
      · have e : pu 6 false i s n1 n2 = false := by simp [pu, hi]
        rw [e]
        have hi' : (i == 0) = false := by simp [hi]
        clear e
        go_enter Tryz.func128, Tryz.ntmps128
        go_wp2_with fail
        go_ret
        exact ⟨rfl, (Below.refl _ w).alloc (Nat.le_refl _) _⟩
      have hi0 : i = 0 := Decidable.of_not_not hi
      subst hi0
      clear hi
      cases hs : s.toList.isEmpty with
      | false =>
        have e : pu 6 false 0 s n1 n2 = false := by simp only [pu, hs]; simp
        rw [e]
        clear e
        go_enter Tryz.func128, Tryz.ntmps128
        go_wp2_with fail
        go_ret
        exact ⟨rfl, (Below.refl _ w).alloc (Nat.le_refl _) _⟩
      | true =>
        have e : pu 6 false 0 s n1 n2 = true := by simp only [pu, hs]; simp
        rw [e]
        clear e
        go_enter Tryz.func128, Tryz.ntmps128
        go_wp2_with fail
        go_ret
        exact ⟨rfl, (Below.refl _ w).alloc (Nat.le_refl _) _⟩
  have h2' : (k == 2) = false := by simp [h2]
  have h3' : (k == 3) = false := by simp [h3]
  have h4' : (k == 4) = false := by simp [h4]
  have h5' : (k == 5) = false := by simp [h5]
  have h6' : (k == 6) = false := by simp [h6]
  cases b with
  | true =>
    have e : pu k true i s n1 n2 = false := by simp [pu, h2, h3, h4, h5, h6]
    rw [e]
    clear e
    go_enter Tryz.func128, Tryz.ntmps128
    go_wp2_with fail
    go_ret
    exact ⟨rfl, (Below.refl _ w).alloc (Nat.le_refl _) _⟩
  | false =>
    by_cases hi : ¬ i = 0
    · have e : pu k false i s n1 n2 = false := by simp [pu, hi, h2, h3, h4, h5, h6]
      rw [e]
      have hi' : (i == 0) = false := by simp [hi]
      clear e
      go_enter Tryz.func128, Tryz.ntmps128
      go_wp2_with fail
      go_ret
      exact ⟨rfl, (Below.refl _ w).alloc (Nat.le_refl _) _⟩
    have hi0 : i = 0 := Decidable.of_not_not hi
    subst hi0
    clear hi
    cases hs : s.toList.isEmpty with
    | false =>
      have e : pu k false 0 s n1 n2 = false := by simp only [pu, hs]; simp [h2, h3, h4, h5, h6]
      rw [e]
      clear e
      go_enter Tryz.func128, Tryz.ntmps128
      go_wp2_with fail
      go_ret
      exact ⟨rfl, (Below.refl _ w).alloc (Nat.le_refl _) _⟩
    | true =>
      by_cases hl : ¬ n2 = 0
      · have e : pu k false 0 s n1 n2 = false := by simp only [pu, hs]; simp [hl, h2, h3, h4, h5, h6]
        rw [e]
        have hl' : ((n2 : Int) == 0) = false := by simp [hl]
        clear e
        go_enter Tryz.func128, Tryz.ntmps128
        go_wp2_with fail
        go_ret
        exact ⟨rfl, (Below.refl _ w).alloc (Nat.le_refl _) _⟩
      have hl0 : n2 = 0 := Decidable.of_not_not hl
      subst hl0
      clear hl
      by_cases hn : ¬ n1 = 0
      · have e : pu k false 0 s n1 0 = false := by simp only [pu, hs]; simp [hn, h2, h3, h4, h5, h6]
        rw [e]
        have hn' : ((n1 : Int) == 0) = false := by simp [hn]
        clear e
        go_enter Tryz.func128, Tryz.ntmps128
        go_wp2_with fail
        go_ret
        exact ⟨rfl, (Below.refl _ w).alloc (Nat.le_refl _) _⟩
      have hn0 : n1 = 0 := Decidable.of_not_not hn
      subst hn0
      clear hn
      have e : pu k false 0 s 0 0 = true := by simp only [pu, hs]; simp
      rw [e]
      clear e
      go_enter Tryz.func128, Tryz.ntmps128
      go_wp2_with fail
      go_ret
      exact ⟨rfl, (Below.refl _ w).alloc (Nat.le_refl _) _⟩
end Go.Proofs.YthjbknncbhkinaaGreatDoor.Pure

namespace Go.Proofs.YthjbknncbhkinaaGreatDoor.Names
open Go.RowKit Go.Maps Go.WideMaps Go.Proofs.YthjbknncbhkinaaGreatDoor.Base Go.Proofs.YthjbknncbhkinaaGreatDoor.Pure Go.Proofs.YthjbknncbhkinaaGreatDoor.Eq
set_option linter.unusedVariables false

def key (x : ByteArray) : Lit := .string x.data.toList
theorem key_inj {x y : ByteArray} (h : key x = key y) : x = y := by
  have h2 : x.data.toList = y.data.toList := by simpa [key] using h
  apply ByteArray.ext
  exact Array.toList_inj.1 h2
/-- The datum D of a map whose keys are the names L, one put behind the other. -/
structure Dat (D : DataW Unit) (L : List ByteArray) : Prop where
  tidy : Tidy D
  has : ∀ x, Maps.has D (key x) = true ↔ x ∈ L
  le : Maps.size D ≤ L.length
  eq : Maps.size D = L.length ↔ L.Nodup
theorem Dat.nil : Dat (.map []) [] := ⟨tidy_empty, fun x => by simp [Maps.has], by simp [Maps.size], by simp [Maps.size]⟩
theorem Dat.snoc {D : DataW Unit} {L : List ByteArray} (h : Dat D L) (x : ByteArray) (d : DataW Unit) : Dat (D.put (key x) d) (L ++ [x]) := by
  have hk : WideAt.IsKeyLit (key x) := trivial
  have hsz := size_put (k := key x) h.tidy d
  refine ⟨h.tidy.put hk d, fun y => ?_, ?_, ?_⟩
  · by_cases hy : y = x
    · subst hy
      rw [has_put_same h.tidy.isMap hk d]
      simp
    · rw [has_put_other (fun e => hy (key_inj e)) d, h.has y]
      simp [hy]
  · rw [hsz, List.length_append]
    have := h.le
    split <;> simp <;> omega
  · rw [hsz, List.length_append, List.nodup_append]
    have hle := h.le
    have heq := h.eq
    by_cases hx : x ∈ L
    · rw [if_pos ((h.has x).2 hx)]
      constructor
      · intro e; simp at e; omega
      · intro ⟨_, _, e⟩
        exact absurd rfl (e x hx x (by simp))
    · rw [if_neg (fun e => hx ((h.has x).1 e))]
      constructor
      · intro e
        refine ⟨heq.1 (by simp at e; omega), by simp, ?_⟩
        intro a ha b hb
        simp at hb
        subst hb
        intro e2
        subst e2
        exact hx ha
      · intro ⟨e, _⟩
        have := heq.2 e
        simp [this]
theorem law9 : Keyed Tryz.prog 9 := string_keyed Tryz.underlying9
/-- No two texts are the same. -/
def nd : List ByteArray → Bool
  | [] => true
  | a :: l => !(l.any (eqB a)) && nd l
theorem nd_iff {L : List ByteArray} : nd L = true ↔ L.Nodup := by
  induction L with
  | nil => simp [nd]
  | cons a l ih =>
    rw [nd, Bool.and_eq_true, ih, List.nodup_cons]
    have : (!(l.any (eqB a))) = true ↔ ¬ a ∈ l := by
      rw [Bool.not_eq_true', ← Bool.not_eq_true, List.any_eq_true]
      constructor
      · intro h ha
        exact h ⟨a, ha, eqB_eq.2 rfl⟩
      · rintro h ⟨x, hx, e⟩
        rw [eqB_eq] at e
        subst e
        exact h hx
    rw [this]
/-- The names of a record may be. -/
def nmb (n : List ByteArray) (ll : Nat) : Bool := decide (n.length = ll) && n.all tg && nd n
theorem makeHint (n : Int) (w : World) : (Instr.makeMap 148 (some (.int .i64 n))).run Tryz.prog w = .ok (.map (some w.heap.size)) (w.alloc (.map #[] 0)) := by
  simp [Instr.makeMap, run_underlying Tryz.underlying148, asInt]
  rfl
set_option maxRecDepth 20000 in
set_option maxHeartbeats 800000 in
theorem names_c {m : Nat} {v : Value} {c : C} {w : World} (h : In false All w m v c) :
    Calls Tryz.prog 129 #[v] w fun r w' => r = .returned (.bool (nmb c.n c.l.length)) ∧ Below w.heap.size w w' := by
  obtain ⟨m', nv, lv, -, rfl, -, -, -, hn, hl⟩ := h.shape
  obtain ⟨a', cap', rfl, hlc', hcm', hlen', hnil', -⟩ := hl.out
  obtain ⟨a, cap, rfl, hlc, hcm, hlen, hsz, hnil, hN⟩ := hn.out
  clear h hn hl
  obtain ⟨k, b, i, s, n, l⟩ := c
  simp only [C.k, C.b, C.i, C.s, C.n, C.l] at *
  generalize l.length = ll at *
  by_cases hne : n.length = ll
  · subst hne
    have e : nmb n n.length = (n.all tg && nd n) := by simp [nmb]
    rw [e]
    clear e
    have hmm := makeHint
    obtain ⟨W0, hW0⟩ : ∃ W0, w.alloc (.cells #[.int .i64 k, .bool b, .int .i64 i, .string s, .slice a n.length cap, .slice a' n.length cap'] 46) = W0 := ⟨_, rfl⟩
    have hb0 : Below w.heap.size w W0 := by rw [← hW0]; exact (Below.refl _ w).alloc (Nat.le_refl _) _
    have hx0 : W0.heap[w.heap.size]? = some (.cells #[.int .i64 k, .bool b, .int .i64 i, .string s, .slice a n.length cap, .slice a' n.length cap'] 46) := by rw [← hW0, heap_alloc_new]
    have hs0 : W0.heap.size = w.heap.size + 1 := by rw [← hW0]; simp
    obtain ⟨d0, d1, d2, d3, d4, d5⟩ := six_box hx0
    have HR : Hid (∀ q, q ≤ n.length → True) := fun _ _ => trivial
    generalize hR : (n.all tg && nd n) = R
    have HH : Hid ((n.all tg && nd n) = R) := hR
    clear hR HR
    go_enter Tryz.func129, Tryz.ntmps129
    go_wp2_with fail
    go_loopw [20] (fun i' wr => ∃ (q : Nat) (D : DataW Unit), q ≤ n.length ∧ i' = .int .i64 q ∧ wr.ownsMap Tryz.prog 9 (plainElem Tryz.prog 3) (w.heap.size + 1) q D ∧ Dat D (n.take q) ∧ ((n.take q).all tg = true) ∧ Below (w.heap.size + 1) W0 wr)
      (fun i' _ => n.length - (intOf i').toNat)
    case atStart =>
      refine ⟨0, .map [], by omega, rfl, ?_, by simpa using Dat.nil, by simp, (Below.refl _ _).alloc (by omega) _⟩
      have := World.ownsMap_made (H := Unit) W0 Tryz.prog 9 (plainElem Tryz.prog 3)
      rwa [hs0] at this
    case round =>
      obtain ⟨q, D, hq, rfl, hown, hD, htg, hb⟩ := hrel
      have HD : Hid (Dat D (n.take q) ∧ (n.take q).all tg = true) := ⟨hD, htg⟩
      have hsle : Maps.size D ≤ q := by have := hD.le; rw [List.length_take] at this; omega
      clear hD htg
      obtain ⟨-, -, -, -, y4, -⟩ := six_box ((hb.block w.heap.size (by omega)).trans hx0)
      have hbw : Below w.heap.size w wr := hb0.trans (hb.mono (by omega))
      by_cases hlt : q < n.length
      · obtain ⟨g, o, rfl, -, hc⟩ := name_at hN hlt
        have hc := below_cell hc hbw
        have hsx := hsz n[q] (List.getElem_mem hlt)
        obtain ⟨x, hx⟩ : ∃ x, n[q] = x := ⟨_, rfl⟩
        have HX : Hid (n[q] = x) := hx
        rw [hx] at hc hsx
        have c64 := tmb_c x hsx wr
        clear hN hx hsz hx0 hW0
        cases ht : tg x with
        | true =>
          rw [ht] at c64
          have hkey : keyOf Tryz.prog 9 (.string x) = some (key x) := keyOf_string_mk Tryz.underlying9 (by unfold maxLen; omega)
          have hval : plainElem (H := Unit) Tryz.prog 3 (.int .i64 (q : Int)) = some (.lit (.int .i64 (q : Int)), []) := plainElem_int Tryz.underlying3 (Go.WalkArith.wf_i64 (by omega))
          go_wp2_with (first
            | (go_at_call 50; refine c64.mono ?_; rintro e w1 ⟨rfl, b1⟩; have hown1 := hown.kept (row := none) ⟨b1.os, b1.tape, b1.output, b1.size, fun k hk _ => b1.block k hk⟩ (by simp))
            | (at_mapUpdate; refine wpList_mapUpdate_own _ rfl _ _ _ 148 rfl 9 3 law9 Tryz.underlying148 (plainElem (H := Unit) Tryz.prog 3) (w.heap.size + 1) q _ rfl hown1 (by unfold maxLen; omega) _ _ _ rfl rfl hkey _ [] hval ?_; intro w2 hown2 hgrow2)
            | fail)
          have HD2 : Hid (Dat (D.put (key x) (.lit (.int .i64 (q : Int)))) (n.take (q + 1)) ∧ (n.take (q + 1)).all tg = true) := by
            have e : n.take (q + 1) = n.take q ++ [x] := by rw [List.take_add_one, List.getElem?_eq_getElem hlt, HX.out]; rfl
            rw [e]
            exact ⟨HD.out.1.snoc x _, by rw [List.all_append, HD.out.2]; simp [ht]⟩
          have hb2 : Below (w.heap.size + 1) W0 w2 := (hb.trans (b1.mono (by have := hb.size; omega))).grown hgrow2 (by have := hb.size; have := b1.size; omega) (fun k hk => by cases hk; exact Nat.le_refl _)
          go_roundw
          case rel => exact ⟨q + 1, _, by omega, by go_num, hown2, HD2.out.1, HD2.out.2, hb2⟩
          case measure => simp only [intOf]; omega
        | false =>
          rw [ht] at c64
          have hR : R = false := by
            rw [← HH.out]
            have : n.all tg = false := by
              rw [← Bool.not_eq_true, List.all_eq_true]
              intro h
              have := h n[q] (List.getElem_mem hlt)
              rw [HX.out, ht] at this
              cases this
            rw [this]
            rfl
          subst hR
          go_wp2_with (first | (go_at_call 50; refine c64.mono ?_; rintro e w1 ⟨rfl, b1⟩))
          go_ret
          exact ⟨rfl, nx hbw b1⟩
      · have hlt' : decide ((q : Int) < (n.length : Int)) = false := by simp; omega
        obtain rfl : q = n.length := by omega
        have e : n.take n.length = n := List.take_of_length_le (Nat.le_refl _)
        have hDat := HD.out.1
        have hall := HD.out.2
        rw [e] at hDat hall
        have hR : ((Maps.size D : Int) == (n.length : Int)) = R := by
          rw [← HH.out, hall, Bool.true_and]
          by_cases hs : Maps.size D = n.length
          · rw [nd_iff.2 (hDat.eq.1 hs), hs]
            simp
          · have : nd n = false := by
              rw [← Bool.not_eq_true, nd_iff]
              exact fun h => hs (hDat.eq.2 h)
            rw [this]
            simp; omega
        clear hDat hall HD e hN hx0 hW0 HH hsz
        go_wp2_with (first
          | (at_len; refine wpList_len_own _ rfl _ 148 rfl 9 3 Tryz.underlying148 (plainElem (H := Unit) Tryz.prog 3) (w.heap.size + 1) n.length _ rfl hown ?_)
          | fail)
        go_ret
        exact ⟨rfl, hbw⟩
  · have e : nmb n ll = false := by simp [nmb, hne]
    rw [e]
    clear e
    have hne' : ((n.length : Int) != (ll : Int)) = true := by simp; omega
    go_enter Tryz.func129, Tryz.ntmps129
    go_wp2_with fail
    go_ret
    exact ⟨rfl, (Below.refl _ w).alloc (Nat.le_refl _) _⟩
end Go.Proofs.YthjbknncbhkinaaGreatDoor.Names

namespace Go.Proofs.YthjbknncbhkinaaGreatDoor.Fault
open Go.RowKit Go.Proofs.YthjbknncbhkinaaGreatDoor.Base Go.Proofs.YthjbknncbhkinaaGreatDoor.Pure Go.Proofs.YthjbknncbhkinaaGreatDoor.Names
set_option linter.unusedVariables false

/-- The form of a value alone, its elements left aside. -/
def fm (c : C) : Bool := pu c.k c.b c.i c.s c.n.length c.l.length && tg c.s && (!decide (c.k = 6) || nmb c.n c.l.length)
def ft (c : C) (d q : Int) : Int := if 16384 < q then 503 else if 24 < d then 502 else if c.k < 1 ∨ 6 < c.k then 500 else if fm c = true then 0 else 501
set_option maxRecDepth 20000 in
set_option maxHeartbeats 1600000 in
theorem fault_c {m : Nat} {v : Value} {c : C} {w : World} (h : In false All w m v c) (d q : Int) :
    Calls Tryz.prog 98 #[v, .int .i64 d, .int .i64 q] w fun r w' => r = .returned (.int .i64 (ft c d q)) ∧ Below w.heap.size w w' := by
  have hin := h
  obtain ⟨m', nv, lv, -, rfl, -, -, hs, hn, hl⟩ := h.shape
  obtain ⟨a', cap', rfl, -⟩ := hl.out
  obtain ⟨a, cap, rfl, -⟩ := hn.out
  clear h hn hl
  obtain ⟨k, b, i, s, n, l⟩ := c
  simp only [C.k, C.b, C.i, C.s, C.n, C.l] at *
  obtain ⟨W0, hW0⟩ : ∃ W0, w.alloc (.cells #[.int .i64 k, .bool b, .int .i64 i, .string s, .slice a n.length cap, .slice a' l.length cap'] 46) = W0 := ⟨_, rfl⟩
  have hb0 : Below w.heap.size w W0 := by rw [← hW0]; exact (Below.refl _ w).alloc (Nat.le_refl _) _
  have hx0 : W0.heap[w.heap.size]? = some (.cells #[.int .i64 k, .bool b, .int .i64 i, .string s, .slice a n.length cap, .slice a' l.length cap'] 46) := by rw [← hW0, heap_alloc_new]
  have hs0 : W0.heap.size = w.heap.size + 1 := by rw [← hW0]; simp
  obtain ⟨d0, d1, d2, d3, d4, d5⟩ := six_box hx0
  have c63 := pure_c k b i s a a' n.length l.length cap cap' W0
  have hin0 := hin.below hb0
  by_cases h1 : 16384 < q
  · have e : ft (.mk k b i s n l) d q = 503 := by simp [ft, h1]
    rw [e]
    clear e hin hin0 c63 hx0
    go_enter Tryz.func98, Tryz.ntmps98
    go_wp2_with fail
    go_ret
    exact ⟨rfl, hb0⟩
  have h1' : decide (16384 < q) = false := decide_eq_false h1
  by_cases h2 : 24 < d
  · have e : ft (.mk k b i s n l) d q = 502 := by simp [ft, h1, h2]
    rw [e]
    clear e hin hin0 c63 hx0
    go_enter Tryz.func98, Tryz.ntmps98
    go_wp2_with fail
    go_ret
    exact ⟨rfl, hb0⟩
  have h2' : decide (24 < d) = false := decide_eq_false h2
  by_cases h3 : k < 1
  · have e : ft (.mk k b i s n l) d q = 500 := by simp [ft, h1, h2, C.k, h3]
    rw [e]
    clear e hin hin0 c63 hx0
    go_enter Tryz.func98, Tryz.ntmps98
    go_wp2_with fail
    go_ret
    exact ⟨rfl, hb0⟩
  have h3' : decide (k < 1) = false := decide_eq_false h3
  by_cases h4 : 6 < k
  · have e : ft (.mk k b i s n l) d q = 500 := by simp [ft, h1, h2, C.k, h4]
    rw [e]
    clear e hin hin0 c63 hx0
    go_enter Tryz.func98, Tryz.ntmps98
    go_wp2_with fail
    go_ret
    exact ⟨rfl, hb0⟩
  have h4' : decide (6 < k) = false := decide_eq_false h4
  have e0 : ft (.mk k b i s n l) d q = if (pu k b i s n.length l.length && tg s && (!decide (k = 6) || nmb n l.length)) = true then 0 else 501 := by
    have h34 : ¬ (k < 1 ∨ 6 < k) := by omega
    unfold ft
    rw [if_neg h1, if_neg h2]
    exact if_neg h34
  rw [e0]
  clear e0 h1 h2 h3 h4
  generalize pu k b i s n.length l.length = P at *
  have c64 := fun w => tmb_c s hs w
  generalize tg s = T at *
  have c65 : ∀ w, In false All w m (.agg #[.int .i64 k, .bool b, .int .i64 i, .string s, .slice a n.length cap, .slice a' l.length cap']) (.mk k b i s n l) →
      Calls Tryz.prog 129 #[.agg #[.int .i64 k, .bool b, .int .i64 i, .string s, .slice a n.length cap, .slice a' l.length cap']] w fun r w' => r = .returned (.bool (nmb n l.length)) ∧ Below w.heap.size w w' := fun w h => names_c h
  generalize nmb n l.length = N at *
  obtain ⟨X, hX⟩ : ∃ X : Int, (if (P && T && (!decide (k = 6) || N)) = true then 0 else 501) = X := ⟨_, rfl⟩
  rw [hX]
  have HX : Hid ((if (P && T && (!decide (k = 6) || N)) = true then 0 else 501) = X) := hX
  clear hX
  cases P with
  | false =>
    go_enter Tryz.func98, Tryz.ntmps98
    go_wp2_with (first | (go_at_call 128; refine c63.mono ?_; rintro e w1 ⟨rfl, b1⟩))
    go_ret
    exact ⟨by rw [← HX.out]; rfl, nx hb0 b1⟩
  | true =>
    go_enter Tryz.func98, Tryz.ntmps98
    go_wp2_with fail
    refine c63.mono ?_
    rintro e w1 ⟨rfl, b1⟩
    have hx1 := (b1.block w.heap.size (by omega)).trans hx0
    obtain ⟨y0, y1, y2, y3, y4, y5⟩ := six_box hx1
    have c641 := c64 w1
    cases T with
    | false =>
      go_wp2_with (first | (go_at_call 50; refine c641.mono ?_; rintro e w2 ⟨rfl, b2⟩))
      go_ret
      exact ⟨by rw [← HX.out]; rfl, nx (nx hb0 b1) b2⟩
    | true =>
      go_wp2_with fail
      refine c641.mono ?_
      rintro e w2 ⟨rfl, b2⟩
      have hx2 := (b2.block w.heap.size (by have := b1.size; omega)).trans hx1
      obtain ⟨z0, z1, z2, z3, z4, z5⟩ := six_box hx2
      by_cases h6 : k = 6
      · subst h6
        have c652 := c65 w2 ((hin0.below b1).below b2)
        cases N with
        | true =>
          go_wp2_with (first | (go_at_call 129; refine c652.mono ?_; rintro e w3 ⟨rfl, b3⟩))
          go_ret
          exact ⟨by rw [← HX.out]; rfl, nx (nx (nx hb0 b1) b2) b3⟩
        | false =>
          go_wp2_with (first | (go_at_call 129; refine c652.mono ?_; rintro e w3 ⟨rfl, b3⟩))
          go_ret
          exact ⟨by rw [← HX.out]; rfl, nx (nx (nx hb0 b1) b2) b3⟩
      · have h6' : (k == 6) = false := by simp [h6]
        go_wp2_with fail
        go_ret
        exact ⟨by rw [← HX.out]; simp [h6], nx (nx hb0 b1) b2⟩
end Go.Proofs.YthjbknncbhkinaaGreatDoor.Fault

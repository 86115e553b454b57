/- Code that is checked, plainly. -/
import Derived.Test.YthjbknncbhkinaaGreatDoorProg
import Derived.WalkKit
import Derived.ProofKit
import Derived.Below
import Derived.Laws.AppendOwn
import Derived.Laws.OwnMore
import Derived.Maps.AppendAt
import Derived.LoopTactic
import Derived.LoopN
import Derived.BigQuiet
namespace Go.Proofs.YthjbknncbhkinaaGreatDoor.IPure
set_option linter.unusedVariables false

def va (L : List Int) (i : Nat) : Int := L[i]?.getD 0
theorem va_eq {L : List Int} {i : Nat} (h : i < L.length) : va L i = L[i] := by simp [va, h]
theorem va_succ (t : Int) (r : List Int) (k : Nat) : va (t :: r) (k + 1) = va r k := by simp [va]
theorem va_zero (t : Int) (r : List Int) : va (t :: r) 0 = t := by simp [va]
theorem va_mem {L : List Int} {k : Nat} (h : k < L.length) : va L k ∈ L := by rw [va_eq h]; exact List.getElem_mem _
/-- The first pile whose top is not below x. -/
def pl : List Int → Int → Nat
  | [], _ => 0
  | t :: r, x => if t < x then pl r x + 1 else 0
/-- x put there. -/
def put : List Int → Int → List Int
  | [], x => [x]
  | t :: r, x => if t < x then t :: put r x else x :: r
theorem pl_le : ∀ (T : List Int) (x : Int), pl T x ≤ T.length
  | [], x => by simp [pl]
  | t :: r, x => by
    have := pl_le r x
    rw [pl]
    split <;> simp <;> omega
theorem pl_lt : ∀ (T : List Int) (x : Int) (k : Nat), k < pl T x → va T k < x
  | [], x, k, h => by simp [pl] at h
  | t :: r, x, k, h => by
    rw [pl] at h
    split at h
    · rename_i ht
      cases k with
      | zero => rw [va_zero]; exact ht
      | succ k => rw [va_succ]; exact pl_lt r x k (by omega)
    · omega
theorem pl_ge : ∀ (T : List Int) (x : Int) (k : Nat), T.Pairwise (· < ·) → pl T x ≤ k → k < T.length → x ≤ va T k
  | [], x, k, _, _, h => by simp at h
  | t :: r, x, k, hs, h1, h2 => by
    obtain ⟨hs1, hs2⟩ := List.pairwise_cons.1 hs
    rw [pl] at h1
    split at h1
    · cases k with
      | zero => omega
      | succ k => rw [va_succ]; exact pl_ge r x k hs2 (by omega) (by simpa using h2)
    · cases k with
      | zero => rw [va_zero]; omega
      | succ k =>
        rw [va_succ]
        have := hs1 _ (va_mem (L := r) (k := k) (by simpa using h2))
        omega
theorem put_at : ∀ (T : List Int) (x : Int) (k : Nat), va (put T x) k = if k = pl T x then x else va T k
  | [], x, k => by
    cases k with
    | zero => simp [put, pl, va]
    | succ k => simp [put, pl, va]
  | t :: r, x, k => by
    rw [put, pl]
    by_cases ht : t < x
    · rw [if_pos ht, if_pos ht]
      cases k with
      | zero => simp [va]
      | succ k =>
        rw [va_succ, va_succ, put_at r x k]
        simp
    · rw [if_neg ht, if_neg ht]
      cases k with
      | zero => simp [va]
      | succ k => simp [va_succ]
theorem put_len : ∀ (T : List Int) (x : Int), (put T x).length = max T.length (pl T x + 1)
  | [], x => by simp [put, pl]
  | t :: r, x => by
    rw [put, pl]
    by_cases ht : t < x
    · rw [if_pos ht, if_pos ht, List.length_cons, put_len r x, List.length_cons]
      omega
    · rw [if_neg ht, if_neg ht, List.length_cons, List.length_cons]
      omega
theorem mem_put : ∀ (T : List Int) (x y : Int), y ∈ put T x → y = x ∨ y ∈ T
  | [], x, y, h => by simp [put] at h; exact .inl h
  | t :: r, x, y, h => by
    rw [put] at h
    split at h
    · rcases List.mem_cons.1 h with rfl | h
      · simp
      · rcases mem_put r x y h with h | h
        · exact .inl h
        · simp [h]
    · rcases List.mem_cons.1 h with rfl | h
      · simp
      · simp [h]
theorem put_sorted : ∀ (T : List Int) (x : Int), T.Pairwise (· < ·) → (put T x).Pairwise (· < ·)
  | [], x, _ => by simp [put]
  | t :: r, x, hs => by
    obtain ⟨hs1, hs2⟩ := List.pairwise_cons.1 hs
    rw [put]
    split
    · rename_i ht
      refine List.pairwise_cons.2 ⟨fun y hy => ?_, put_sorted r x hs2⟩
      rcases mem_put r x y hy with rfl | h
      · exact ht
      · exact hs1 y h
    · refine List.pairwise_cons.2 ⟨fun y hy => ?_, hs2⟩
      have := hs1 y hy
      omega
def tops (L : List Int) : List Int := L.foldl put []
theorem tops_succ {L : List Int} {i : Nat} (h : i < L.length) : tops (L.take (i + 1)) = put (tops (L.take i)) (va L i) := by
  rw [tops, List.take_succ_eq_append_getElem h, List.foldl_append, va_eq h]
  rfl
/-- The length of the longest rise that ends at i. -/
def en (L : List Int) (i : Nat) : Nat := pl (tops (L.take i)) (va L i) + 1
/-- A rise. -/
def Ri (L : List Int) (ps : List Nat) : Prop := (∀ p ∈ ps, p < L.length) ∧ ps.Pairwise (fun a b => a < b ∧ va L a < va L b)
theorem Ri.nil (L : List Int) : Ri L [] := ⟨fun p h => (by cases h), List.Pairwise.nil⟩
theorem Ri.one {L : List Int} {i : Nat} (h : i < L.length) : Ri L [i] := ⟨fun p hp => by simp at hp; omega, by simp⟩
theorem Ri.front {L : List Int} {ps qs : List Nat} (h : Ri L (ps ++ qs)) : Ri L ps := ⟨fun p hp => h.1 p (by simp [hp]), (List.pairwise_append.1 h.2).1⟩
theorem Ri.back {L : List Int} {ps qs : List Nat} (h : Ri L (ps ++ qs)) : Ri L qs := ⟨fun p hp => h.1 p (by simp [hp]), (List.pairwise_append.1 h.2).2.1⟩
/-- Two rises, one behind the other. -/
theorem Ri.join {L : List Int} {ps qs : List Nat} (h : Ri L ps) (k : Ri L qs) (hj : ∀ a ∈ ps, ∀ b ∈ qs, a < b ∧ va L a < va L b) : Ri L (ps ++ qs) :=
  ⟨fun p hp => by rcases List.mem_append.1 hp with hp | hp; exact h.1 p hp; exact k.1 p hp, List.pairwise_append.2 ⟨h.2, k.2, hj⟩⟩
theorem Ri.snoc {L : List Int} {ps : List Nat} {j i : Nat} (h : Ri L (ps ++ [j])) (h1 : j < i) (h2 : va L j < va L i) (h3 : i < L.length) : Ri L ((ps ++ [j]) ++ [i]) := by
  refine h.join (.one h3) fun a ha b hb => ?_
  simp at hb
  subst hb
  rcases List.mem_append.1 ha with ha | ha
  · have := (List.pairwise_append.1 h.2).2.2 a ha j (by simp)
    omega
  · simp at ha
    subst ha
    exact ⟨h1, h2⟩
theorem Ri.last {L : List Int} {ps : List Nat} {j i : Nat} (h : Ri L ((ps ++ [j]) ++ [i])) : j < i ∧ va L j < va L i :=
  (List.pairwise_append.1 h.2).2.2 j (by simp) i (by simp)
theorem snoc_of {α : Type} : ∀ (l : List α), l = [] ∨ ∃ r x, l = r ++ [x]
  | [] => .inl rfl
  | a :: r => by
    rcases snoc_of r with rfl | ⟨s, x, rfl⟩
    · exact .inr ⟨[], a, rfl⟩
    · exact .inr ⟨a :: s, x, rfl⟩
structure En (L : List Int) (i n : Nat) : Prop where
  ex : ∃ ps, Ri L (ps ++ [i]) ∧ ps.length + 1 = n
  le : ∀ ps, Ri L (ps ++ [i]) → ps.length + 1 ≤ n
theorem piles (L : List Int) : ∀ i, i ≤ L.length → (tops (L.take i)).Pairwise (· < ·) ∧
    (∀ p, p < (tops (L.take i)).length → ∃ j, j < i ∧ en L j = p + 1 ∧ va L j = va (tops (L.take i)) p) ∧
    (∀ j, j < i → en L j ≤ (tops (L.take i)).length ∧ va (tops (L.take i)) (en L j - 1) ≤ va L j) ∧
    (∀ j, j < i → En L j (en L j)) := by
  intro i
  induction i with
  | zero => exact fun _ => ⟨by simp [tops], fun p h => by simp [tops] at h, fun j h => by omega, fun j h => by omega⟩
  | succ i ih =>
    intro hi
    obtain ⟨h1, h2, h3, h4⟩ := ih (by omega)
    have he : en L i = pl (tops (L.take i)) (va L i) + 1 := rfl
    rw [tops_succ (by omega)]
    obtain ⟨T, hT⟩ : ∃ T, tops (L.take i) = T := ⟨_, rfl⟩
    rw [hT] at h1 h2 h3 he ⊢
    have hple := pl_le T (va L i)
    refine ⟨put_sorted _ _ h1, fun p hp => ?_, fun j hj => ?_, fun j hj => ?_⟩
    · rw [put_len] at hp
      rw [put_at]
      by_cases hpp : p = pl T (va L i)
      · exact ⟨i, by omega, by omega, by rw [if_pos hpp]⟩
      · obtain ⟨j, a, b, c⟩ := h2 p (by omega)
        exact ⟨j, by omega, b, by rw [if_neg hpp]; exact c⟩
    · rw [put_len, put_at]
      by_cases hji : j = i
      · subst hji
        rw [he, if_pos (by omega)]
        exact ⟨by omega, Int.le_refl _⟩
      · obtain ⟨a, b⟩ := h3 j (by omega)
        refine ⟨by omega, ?_⟩
        split
        · rename_i hp
          have h5 : 1 ≤ en L j := by unfold en; omega
          have := pl_ge T (va L i) (en L j - 1) h1 (by omega) (by omega)
          omega
        · exact b
    · by_cases hji : j = i
      · subst hji
        constructor
        · by_cases h0 : pl T (va L j) = 0
          · exact ⟨[], by simpa using Ri.one (by omega), by simp; omega⟩
          · obtain ⟨k, a, b, c⟩ := h2 (pl T (va L j) - 1) (by omega)
            obtain ⟨ps, hps, hl⟩ := (h4 k a).ex
            have hv := pl_lt T (va L j) (pl T (va L j) - 1) (by omega)
            refine ⟨ps ++ [k], hps.snoc a (by omega) (by omega), ?_⟩
            simp
            omega
        · intro ps hps
          rcases snoc_of ps with rfl | ⟨qs, k, rfl⟩
          · simp; omega
          · obtain ⟨a, b⟩ := hps.last
            have c := (h4 k a).le qs hps.front
            obtain ⟨d, e⟩ := h3 k a
            have h5 : 1 ≤ en L k := by unfold en; omega
            have : en L k - 1 < pl T (va L j) := by
              apply Nat.lt_of_not_le
              intro hh
              have := pl_ge T (va L j) (en L k - 1) h1 hh (by omega)
              omega
            simp
            omega
      · exact h4 j (by omega)
/-- How long the longest is. -/
def K (L : List Int) : Nat := (tops L).length
theorem en_holds {L : List Int} {i : Nat} (h : i < L.length) : En L i (en L i) := (piles L L.length (Nat.le_refl _)).2.2.2 i h
theorem en_pos (L : List Int) (i : Nat) : 1 ≤ en L i := by unfold en; omega
theorem en_le {L : List Int} {i : Nat} (h : i < L.length) : en L i ≤ K L := by
  have := ((piles L L.length (Nat.le_refl _)).2.2.1 i h).1
  rwa [List.take_length] at this
theorem en_at {L : List Int} {p : Nat} (h : p < K L) : ∃ j, j < L.length ∧ en L j = p + 1 := by
  have h2 := (piles L L.length (Nat.le_refl _)).2.1
  rw [List.take_length] at h2
  obtain ⟨j, a, b, -⟩ := h2 p h
  exact ⟨j, a, b⟩
theorem en_lt {L : List Int} {i j : Nat} (h1 : i < j) (h2 : j < L.length) (h3 : va L i < va L j) : en L i < en L j := by
  obtain ⟨ps, hps, hl⟩ := (en_holds (L := L) (i := i) (by omega)).ex
  have := (en_holds h2).le _ (hps.snoc h1 h3 h2)
  simp at this
  omega
theorem ri_le {L : List Int} {qs : List Nat} (h : Ri L qs) : qs.length ≤ K L := by
  rcases snoc_of qs with rfl | ⟨ps, i, rfl⟩
  · simp
  · have hi : i < L.length := h.1 i (by simp)
    have := (en_holds hi).le ps h
    have := en_le hi
    simp
    omega
theorem tops_len (L : List Int) : ∀ i, i ≤ L.length → (tops (L.take i)).length ≤ i := by
  intro i
  induction i with
  | zero => intro _; simp [tops]
  | succ i ih =>
    intro h
    rw [tops_succ (by omega), put_len]
    have := ih (by omega)
    have := pl_le (tops (L.take i)) (va L i)
    omega
theorem K_le (L : List Int) : K L ≤ L.length := by
  have := tops_len L L.length (Nat.le_refl _)
  rwa [List.take_length] at this
theorem least {Q : Nat → Prop} (h : ∃ j, Q j) : ∃ j, Q j ∧ ∀ i, Q i → j ≤ i := by
  obtain ⟨j, hj⟩ := h
  have : ∀ n, (∀ i, i < n → ¬ Q i) ∨ ∃ j, Q j ∧ ∀ i, Q i → j ≤ i := by
    intro n
    induction n with
    | zero => exact .inl fun i h => by omega
    | succ n ih =>
      rcases ih with ih | ih
      · by_cases hq : Q n
        · exact .inr ⟨n, hq, fun i hi => Nat.le_of_not_lt fun h => ih i h hi⟩
        · refine .inl fun i hi => ?_
          by_cases e : i = n
          · subst e; exact hq
          · exact ih i (by omega)
      · exact .inr ih
  rcases this (j + 1) with h | h
  · exact absurd hj (h j (by omega))
  · exact h
/-- One round of the way back. -/
def upd {α : Type} (f : Nat → α) (k : Nat) (x : α) : Nat → α := fun j => if j = k then x else f j
def stp (L : List Int) (p : Nat → Nat) (x : Nat) : Nat → Nat := if en L x = K L ∨ va L x < va L (p (en L x)) then upd p (en L x - 1) x else p
/-- The places behind m rounds. -/
def pst (L : List Int) : Nat → Nat → Nat
  | 0 => fun _ => 0
  | m + 1 => stp L (pst L m) (L.length - 1 - m)
def fin (L : List Int) : Nat → Nat := pst L L.length
theorem pst_stays {L : List Int} {k f : Nat} (hf : f < L.length) (he : en L f = k + 1) (hc : k + 1 = K L ∨ (f < fin L (k + 1) ∧ va L f < va L (fin L (k + 1)) ∧ ∀ m, L.length - fin L (k + 1) ≤ m → m ≤ L.length → pst L m (k + 1) = fin L (k + 1)))
    (hl : ∀ j, j < L.length → en L j = k + 1 → (k + 1 = K L ∨ va L j < va L (fin L (k + 1))) → f ≤ j) : ∀ m, L.length - f ≤ m → m ≤ L.length → pst L m k = f := by
  intro m
  induction m with
  | zero => intro h; omega
  | succ m ih =>
    intro h1 h2
    rw [pst]
    by_cases hm : L.length - f ≤ m
    · have ih := ih hm (by omega)
      obtain ⟨x, hx⟩ : ∃ x, L.length - 1 - m = x := ⟨_, rfl⟩
      rw [hx]
      unfold stp
      split
      · rename_i hcond
        unfold upd
        have hp := en_pos L x
        split
        · rename_i hk
          have hex : en L x = k + 1 := by omega
          exfalso
          have := hl x (by omega) hex (by
            rcases hcond with h | h
            · exact .inl (by omega)
            · rcases hc with hc | ⟨hc1, hc2, hc3⟩
              · exact .inl hc
              · rw [hex, hc3 m (by omega) (by omega)] at h
                exact .inr h)
          omega
        · exact ih
      · exact ih
    · have hx : L.length - 1 - m = f := by omega
      rw [hx]
      unfold stp
      rw [if_pos]
      · unfold upd
        rw [if_pos (by omega)]
      · rcases hc with hc | ⟨hc1, hc2, hc3⟩
        · exact .inl (by omega)
        · rw [he, hc3 m (by omega) (by omega)]
          exact .inr hc2
structure Pk (L : List Int) (k : Nat) : Prop where
  lt : fin L k < L.length
  en : en L (fin L k) = k + 1
  stays : ∀ m, L.length - fin L k ≤ m → m ≤ L.length → pst L m k = fin L k
  last : k + 1 = K L → ∀ j, j < L.length → IPure.en L j = K L → fin L k ≤ j
  next : k + 1 < K L → fin L k < fin L (k + 1) ∧ va L (fin L k) < va L (fin L (k + 1)) ∧ ∀ j, j < L.length → IPure.en L j = k + 1 → va L j < va L (fin L (k + 1)) → fin L k ≤ j
theorem pk_all (L : List Int) : ∀ d k, k + d + 1 = K L → Pk L k := by
  intro d
  induction d with
  | zero =>
    intro k hk
    obtain ⟨f, ⟨hf, he⟩, hl⟩ := least (en_at (L := L) (p := k) (by omega))
    have hst := pst_stays hf he (.inl (by omega)) (fun j h1 h2 _ => hl j ⟨h1, h2⟩)
    have hfin : fin L k = f := hst L.length (by omega) (Nat.le_refl _)
    exact ⟨by omega, by rw [hfin]; exact he, by rw [hfin]; exact hst, fun _ j h1 h2 => by rw [hfin]; exact hl j ⟨h1, by omega⟩, fun h => by omega⟩
  | succ d ih =>
    intro k hk
    have P := ih (k + 1) (by omega)
    obtain ⟨ps, hps, hlen⟩ := (en_holds P.lt).ex
    rw [P.en] at hlen
    rcases snoc_of ps with rfl | ⟨qs, j, rfl⟩
    · simp at hlen
    · obtain ⟨a, b⟩ := hps.last
      have hj : j < L.length := by have := P.lt; omega
      have c := (en_holds hj).le qs hps.front
      have d := en_lt a P.lt b
      have e := P.en
      simp at hlen
      obtain ⟨f, ⟨hf, he, hv⟩, hl⟩ := least (Q := fun j => j < L.length ∧ en L j = k + 1 ∧ va L j < va L (fin L (k + 1))) ⟨j, hj, by omega, b⟩
      have hlt : f < fin L (k + 1) := by have := hl j ⟨hj, by omega, b⟩; omega
      have hst := pst_stays hf he (.inr ⟨hlt, hv, P.stays⟩) (fun j h1 h2 h3 => hl j ⟨h1, h2, by
        rcases h3 with h3 | h3
        · omega
        · exact h3⟩)
      have hfin : fin L k = f := hst L.length (by omega) (Nat.le_refl _)
      exact ⟨by omega, by rw [hfin]; exact he, by rw [hfin]; exact hst, fun h => by omega, fun _ => by rw [hfin]; exact ⟨hlt, hv, fun j h1 h2 h3 => hl j ⟨h1, h2, h3⟩⟩⟩
theorem pk {L : List Int} {k : Nat} (h : k < K L) : Pk L k := pk_all L (K L - k - 1) k (by omega)
/-- The places that are asked for. -/
def bst (L : List Int) : List Nat := (List.range (K L)).map (fin L)
theorem bst_len (L : List Int) : (bst L).length = K L := by simp [bst]
theorem fin_lt {L : List Int} : ∀ b a, a < b → b < K L → fin L a < fin L b ∧ va L (fin L a) < va L (fin L b) := by
  intro b
  induction b with
  | zero => intro a h; omega
  | succ b ih =>
    intro a h1 h2
    have := (pk (L := L) (k := b) (by omega)).next h2
    by_cases e : a = b
    · subst e
      exact ⟨this.1, this.2.1⟩
    · have := ih a (by omega) (by omega)
      omega
theorem bst_ri (L : List Int) : Ri L (bst L) := by
  refine ⟨fun p hp => ?_, ?_⟩
  · obtain ⟨k, hk, rfl⟩ := List.mem_map.1 hp
    exact (pk (by simpa using hk)).lt
  · rw [List.pairwise_iff_getElem]
    intro i j hi hj hij
    simp only [bst, List.getElem_map, List.getElem_range]
    rw [bst_len] at hj
    exact fin_lt j i hij hj
theorem ri_en {L : List Int} {qs : List Nat} (h : Ri L qs) (hl : qs.length = K L) : ∀ k (hk : k < qs.length), en L qs[k] = k + 1 := by
  have hlo : ∀ k (hk : k < qs.length), k + 1 ≤ en L qs[k] := by
    intro k
    induction k with
    | zero => intro hk; exact en_pos _ _
    | succ k ih =>
      intro hk
      have := ih (by omega)
      have h2 := List.pairwise_iff_getElem.1 h.2 k (k + 1) (by omega) hk (by omega)
      have := en_lt h2.1 (h.1 _ (List.getElem_mem _)) h2.2
      omega
  have hhi : ∀ d k (hk : k < qs.length), k + d + 1 = qs.length → en L qs[k] ≤ k + 1 := by
    intro d
    induction d with
    | zero => intro k hk e; have := en_le (h.1 _ (List.getElem_mem hk)); omega
    | succ d ih =>
      intro k hk e
      have := ih (k + 1) (by omega) (by omega)
      have h2 := List.pairwise_iff_getElem.1 h.2 k (k + 1) (by omega) (by omega) (by omega)
      have := en_lt h2.1 (h.1 _ (List.getElem_mem _)) h2.2
      omega
  intro k hk
  have := hlo k hk
  have := hhi (qs.length - k - 1) k hk (by omega)
  omega
theorem bst_least {L : List Int} {qs : List Nat} (h : Ri L qs) (hl : qs.length = K L) : ∀ k (hk : k < qs.length), fin L k ≤ qs[k] := by
  have hen := ri_en h hl
  have : ∀ d k (hk : k < qs.length), k + d + 1 = qs.length → fin L k ≤ qs[k] := by
    intro d
    induction d with
    | zero => intro k hk e; exact (pk (by omega)).last (by omega) _ (h.1 _ (List.getElem_mem hk)) (by rw [hen k hk]; omega)
    | succ d ih =>
      intro k hk e
      have h1 := ih (k + 1) (by omega) (by omega)
      have h2 := List.pairwise_iff_getElem.1 h.2 k (k + 1) (by omega) (by omega) (by omega)
      refine ((pk (L := L) (k := k) (by omega)).next (by omega)).2.2 _ (h.1 _ (List.getElem_mem hk)) (hen k hk) ?_
      have hv : va L qs[k + 1] ≤ va L (fin L (k + 1)) := by
        by_cases e : fin L (k + 1) = qs[k + 1]
        · rw [e]; exact Int.le_refl _
        · apply Int.le_of_not_gt
          intro hv
          have h3 := en_lt (L := L) (i := fin L (k + 1)) (j := qs[k + 1]) (by omega) (h.1 _ (List.getElem_mem _)) hv
          rw [hen (k + 1) (by omega), (pk (L := L) (k := k + 1) (by omega)).en] at h3
          omega
      omega
  intro k hk
  exact this (qs.length - k - 1) k hk (by omega)
end Go.Proofs.YthjbknncbhkinaaGreatDoor.IPure

namespace Go.Proofs.YthjbknncbhkinaaGreatDoor.IBase
open Go.RowKit Go.Proofs.YthjbknncbhkinaaGreatDoor.IPure
set_option linter.unusedVariables false

theorem cell_lt {w : World} {a : Addr} {v : Value} (h : w.cell? a = some v) : a.block < w.heap.size := by
  unfold World.cell? at h
  split at h
  · next hh => exact (Array.getElem?_eq_some_iff.1 hh).1
  · cases h
theorem below_cell {w w' : World} {g o : Nat} {u : Value} (h : w.cell? ⟨g, o, none⟩ = some u) (hb : Below w.heap.size w w') : w'.cell? ⟨g, o, none⟩ = some u :=
  (World.cell?_of_block (w := w) (hb.block g (cell_lt h))).trans h
theorem nx {a b c : World} (h : Below a.heap.size a b) (k : Below b.heap.size b c) : Below a.heap.size a c := h.trans (k.mono h.size)
theorem add_none (g o j : Nat) : (⟨g, o, none⟩ : Addr).add j = ⟨g, o + j, none⟩ := by
  unfold Addr.add
  split
  · simp_all
  · rfl
theorem heap_alloc_new (w : World) (o : Obj) : (w.alloc o).heap[w.heap.size]? = some o := by
  show (w.heap.push o)[w.heap.size]? = _
  simp
theorem below_drewN {w wr : World} {k n : Nat} (h : Below k w wr) : Below k w (wr.drewN n) := ⟨h.os, h.tape, h.output, h.size, h.block⟩
theorem infoI : (Tryz.prog.info? 3).map (fun i => (i.zero, i.size, i.bytes)) = some (some (.int .i64 0), 1, 8) := by kernel_rfl
/-- A row of integers that is read. -/
def Ix (w : World) (v : Value) (L : List Int) : Prop :=
  ∃ a cap, v = .slice a L.length cap ∧ L.length ≤ cap ∧ cap ≤ 9223372036854775807 ∧ (a = none → cap = 0) ∧ (L = [] ∨ ∃ g o, a = some ⟨g, o, none⟩ ∧ ∀ j (h : j < L.length), w.cell? ⟨g, o + j, none⟩ = some (.int .i64 L[j]))
theorem Ix.below {w w' : World} {v : Value} {L : List Int} (h : Ix w v L) (hb : Below w.heap.size w w') : Ix w' v L := by
  obtain ⟨a, cap, h1, h2, h3, h4, h5⟩ := h
  refine ⟨a, cap, h1, h2, h3, h4, ?_⟩
  rcases h5 with h5 | ⟨g, o, ha, hc⟩
  · exact .inl h5
  · exact .inr ⟨g, o, ha, fun j hj => below_cell (hc j hj) hb⟩
/-- A row of integers of one's own. -/
def Oi (w : World) (B : Nat) (v : Value) (L : List Int) : Prop := w.ownsRow B 3 1 v L.length (L.map (Value.int .i64))
theorem Oi.shape {w : World} {B : Nat} {v : Value} {L : List Int} (h : Oi w B v L) : ∃ a cap, v = .slice a L.length cap := by
  rcases h.2 with ⟨rfl, e⟩ | ⟨g, cap, cur, rfl, -⟩
  · exact ⟨none, 0, by rw [e]⟩
  · exact ⟨_, _, rfl⟩
theorem Oi.below {w w' : World} {B : Nat} {v : Value} {L : List Int} (h : Oi w B v L) (hb : Below w.heap.size w w') : Oi w' B v L := by
  refine ⟨h.1, ?_⟩
  rcases h.2 with h2 | ⟨g, cap, cur, h1, h2, h3, h4⟩
  · exact .inl h2
  · exact .inr ⟨g, cap, cur, h1, h2, (hb.block g (Array.getElem?_eq_some_iff.1 h3).1).trans h3, h4⟩
theorem Oi.ix {w : World} {B : Nat} {v : Value} {L : List Int} (h : Oi w B v L) : Ix w v L := by
  have h0 := h
  rcases h.2 with ⟨rfl, e⟩ | ⟨g, cap, cur, rfl, h1, h2, h3, h4, -⟩
  · have := List.eq_nil_of_length_eq_zero e
    subst this
    exact ⟨none, 0, rfl, by simp, by simp, fun _ => rfl, .inl rfl⟩
  · refine ⟨_, cap, rfl, h3, h4, (fun h => by cases h), .inr ⟨g, 0, rfl, fun j hj => ?_⟩⟩
    have := World.ownsRow.cells (g := g) h0 rfl j (.int .i64 L[j]) (by simp [hj])
    rwa [add_none] at this
theorem Oi.mono {w : World} {B B' : Nat} {v : Value} {L : List Int} (h : Oi w B v L) (hb : B' ≤ B) : Oi w B' v L := by
  refine ⟨h.1, ?_⟩
  rcases h.2 with h2 | ⟨g, cap, cur, h1, h2, h3⟩
  · exact .inl h2
  · exact .inr ⟨g, cap, cur, h1, by omega, h3⟩
theorem Oi.lt {w : World} {B g n cap : Nat} {L : List Int} (h : Oi w B (.slice (some ⟨g, 0, none⟩) n cap) L) : B ≤ g ∧ g < w.heap.size := World.ownsRow.lt h g rfl
/-- Blocks other than its own may change. -/
theorem Oi.grown {w w' : World} {B : Nat} {row : Option Nat} {v : Value} {L : List Int} (h : Oi w B v L) (hg : w.grownBy w' row) (hne : v.ownBlock = none ∨ v.ownBlock ≠ row) : Oi w' B v L := World.ownsRow.kept h hg hne
theorem Oi.set {w : World} {B g n cap : Nat} {L : List Int} (h : Oi w B (.slice (some ⟨g, 0, none⟩) n cap) L) (k : Nat) (x : Int) :
    Oi (w.setCell ⟨g, k, none⟩ (.int .i64 x)) B (.slice (some ⟨g, 0, none⟩) n cap) (L.set k x) ∧ w.grownBy (w.setCell ⟨g, k, none⟩ (.int .i64 x)) (some g) := by
  obtain ⟨a, c, e⟩ := h.shape
  cases e
  obtain ⟨h1, h2⟩ := World.ownsRow.stored h k (.int .i64 x)
  refine ⟨?_, h2⟩
  unfold Oi
  rw [List.length_set, List.map_set]
  exact h1
theorem Oi.at {w : World} {B g n cap : Nat} {L : List Int} (h : Oi w B (.slice (some ⟨g, 0, none⟩) n cap) L) {k : Nat} (hk : k < L.length) : w.cell? ⟨g, 0 + k, none⟩ = some (.int .i64 L[k]) ∧ w.frozen? ⟨g, 0 + k, none⟩ = false := by
  obtain ⟨a, c, e⟩ := h.shape
  cases e
  have := World.ownsRow.cells (g := g) h rfl k (.int .i64 L[k]) (by simp [hk])
  rw [add_none] at this
  exact ⟨this, World.ownsRow.frozenAt h _⟩
theorem Oi.pos {w : World} {B : Nat} {v : Value} {L : List Int} (h : Oi w B v L) (hl : 0 < L.length) : ∃ g cap, v = .slice (some ⟨g, 0, none⟩) L.length cap ∧ L.length ≤ cap ∧ cap ≤ 9223372036854775807 := by
  rcases h.2 with ⟨rfl, e⟩ | ⟨g, cap, cur, rfl, h1, h2, h3, h4, -⟩
  · omega
  · exact ⟨g, cap, rfl, h3, h4⟩
/-- A row by its places. -/
def ro (n : Nat) (f : Nat → Int) : List Int := (List.range n).map f
theorem ro_len (n : Nat) (f : Nat → Int) : (ro n f).length = n := by simp [ro]
theorem ro_get (n : Nat) (f : Nat → Int) (k : Nat) (h : k < (ro n f).length) : (ro n f)[k] = f k := by simp [ro]
theorem ro_congr {n : Nat} {f g : Nat → Int} (h : ∀ k, k < n → f k = g k) : ro n f = ro n g := by
  unfold ro
  apply List.map_congr_left
  intro k hk
  exact h k (by simpa using hk)
theorem ro_set (n : Nat) (f : Nat → Int) (k : Nat) (x : Int) : (ro n f).set k x = ro n (upd f k x) := by
  apply List.ext_getElem
  · simp [ro]
  · intro i h1 h2
    rw [List.getElem_set, ro_get, ro_get]
    by_cases e : k = i
    · rw [if_pos e, upd, if_pos e.symm]
    · rw [if_neg e, upd, if_neg (fun h => e h.symm)]
theorem ro_va (L : List Int) : L = ro L.length (va L) := by
  apply List.ext_getElem
  · simp [ro]
  · intro i h1 h2
    rw [ro_get, va_eq h1]
/-- A new row of zeros. -/
def mz (n : Nat) : Array Value := madeCells (Value.int .i64 0).cells (n * 1)
theorem mz_list (n : Nat) : (mz n).toList = (ro n fun _ => 0).map (Value.int .i64) := by
  apply List.ext_getElem
  · simp [mz, size_madeCells, ro]
  · intro i h1 h2
    simp [mz, madeCells, ro, Value.cells, Nat.mod_one]
theorem make_ints {n : Nat} (h : n ≤ 17592186044416) (w : World) : (Instr.makeSlice 147 (.int .i64 n) (.int .i64 n)).run Tryz.prog w = .ok (.slice (some ⟨w.heap.size, 0, none⟩) n n) (w.alloc (.cells (mz n) 3)) := by
  obtain ⟨i0, hi, hz0, hz1, hz2⟩ := info_parts infoI
  have := run_make (P := Tryz.prog) w 147 3 i0 _ Tryz.underlying147 hi hz0 .i64 .i64 n n (by omega) (by omega) (by rw [hz2]; omega) (by omega)
  rw [Int.toNat_natCast, hz1] at this
  exact this
theorem oi_made {n : Nat} (h : n ≤ 17592186044416) (w : World) : Oi (w.alloc (.cells (mz n) 3)) w.heap.size (.slice (some ⟨w.heap.size, 0, none⟩) n n) (ro n fun _ => 0) := by
  refine ⟨by simp, .inr ⟨w.heap.size, n, mz n, by rw [ro_len], Nat.le_refl _, heap_alloc_new w _, by rw [ro_len]; exact Nat.le_refl _, by simp [maxLen]; omega, by simp [mz, size_madeCells], ?_⟩⟩
  rw [mz_list, ro_len]
  apply List.take_of_length_le
  simp [ro]
/-- The cells of a new block. -/
theorem new_cells (w : World) (cs : List Value) (t : TypeId) : ∀ j u, cs[j]? = some u → (w.alloc (.cells cs.toArray t)).cell? ((⟨w.heap.size, 0, none⟩ : Addr).add j) = some u := by
  intro j u hu
  rw [add_none, Nat.zero_add]
  have h := heap_alloc_new w (.cells cs.toArray t)
  have e : (w.alloc (.cells cs.toArray t)).cell? ⟨w.heap.size, j, none⟩ = cs.toArray[j]? := by
    unfold World.cell?
    rw [h]
    rfl
  rw [e]
  simpa using hu
theorem oi_nil (w : World) (B : Nat) : Oi w B (.slice none 0 0) [] := World.ownsRow_nil _ _ _ _
end Go.Proofs.YthjbknncbhkinaaGreatDoor.IBase

namespace Go.Proofs.YthjbknncbhkinaaGreatDoor.CPu
open Go.Proofs.YthjbknncbhkinaaGreatDoor.IPure
set_option linter.unusedVariables false

/-- An instruction: Op and A. -/
abbrev Ins := Int × Int
/-- How many values an instruction takes or looks at. -/
def nd (o : Int) : Int := bif decide (o ≤ 6) || (o == 33) then 0 else bif (o == 8) || (decide (12 ≤ o) && decide (o ≤ 28)) then 2 else 1
def fmd (o a : Int) : Bool := bif (o == 4) || ((o == 5) || ((o == 6) || ((o == 7) || ((o == 30) || ((o == 31) || ((o == 32) || (o == 33))))))) then true else bif (o == 9) then decide (1 ≤ a) && decide (a ≤ 8) else (decide (1 ≤ o) && decide (o ≤ 33)) && (a == 0)
def ijp (o : Int) : Bool := decide (30 ≤ o) && decide (o ≤ 33)
def hnm (t d o a : Int) : Bool := bif (o == 5) || (o == 7) then decide (0 ≤ a) && decide (a < t) else bif (o == 6) then decide (0 ≤ a) && decide (a < d) else true
/-- A way leads to k with h values: may it, and the heights behind it. -/
def ldb (H : Nat → Int) (k : Nat) (h : Int) : Bool := bif decide (H k < 0) then true else H k == h
def ld (H : Nat → Int) (k : Nat) (h : Int) : Nat → Int := if H k < 0 then upd H k h else H
def both (H : Nat → Int) (k : Nat) (h : Int) (k' : Nat) (h' : Int) : Option (Nat → Int) := if ldb H k h = true then (if ldb (ld H k h) k' h' = true then some (ld (ld H k h) k' h') else none) else none
def one (H : Nat → Int) (k : Nat) (h : Int) : Option (Nat → Int) := if ldb H k h = true then some (ld H k h) else none
/-- Where an instruction leads to. -/
def lon (H : Nat → Int) (i : Nat) (o a : Int) : Option (Nat → Int) :=
  if H i - nd o < 0 then none
  else if o = 30 ∨ o = 31 then both H a.toNat (H i - nd o + 1) (i + 1) (H i - nd o)
  else if o = 32 then both H a.toNat (H i - nd o) (i + 1) (H i - nd o)
  else if o = 33 then one H a.toNat (H i - nd o)
  else one H (i + 1) (H i - nd o + 1)
/-- One instruction: its fault, or the heights behind it. -/
def fl (n : Nat) (t d : Int) (H : Nat → Int) (i : Nat) (x : Ins) : Except Int (Nat → Int) :=
  if H i < 0 then .error 2001
  else if fmd x.1 x.2 = false then .error 2000
  else if hnm t d x.1 x.2 = false then .error 2003
  else if ijp x.1 = true ∧ (x.2 ≤ i ∨ (n : Int) < x.2) then .error 2002
  else match lon H i x.1 x.2 with
    | none => .error 2001
    | some H' => .ok H'
/-- All of them from number i on. -/
def fls (n : Nat) (t d : Int) : (Nat → Int) → Nat → List Ins → Int
  | H, _, [] => if H n = 1 then 0 else 2001
  | H, i, x :: r => match fl n t d H i x with
    | .error e => e
    | .ok H' => fls n t d H' (i + 1) r
def h0 : Nat → Int := fun k => if k = 0 then 0 else -1
/-- What Check answers. -/
def ck (L : List Ins) (t d : Int) : Int := if 8192 < L.length then 2004 else fls L.length t d h0 0 L
/-- Heights that may be. -/
def Hb (H : Nat → Int) : Prop := ∀ k, -1 ≤ H k ∧ H k ≤ k
theorem hb0 : Hb h0 := fun k => by unfold h0; split <;> omega
theorem ld_hb {H : Nat → Int} (h : Hb H) {k : Nat} {x : Int} (h1 : 0 ≤ x) (h2 : x ≤ k) : Hb (ld H k x) := by
  intro j
  unfold ld
  split
  · unfold upd
    split
    · next e => subst e; omega
    · exact h j
  · exact h j
theorem ld_at {H : Nat → Int} {k : Nat} {x : Int} (h : ldb H k x = true) : ld H k x k = x := by
  unfold ldb at h
  unfold ld
  by_cases hk : H k < 0
  · simp [hk, upd]
  · simp [hk] at h ⊢
    exact h
theorem nd_range (o : Int) : 0 ≤ nd o ∧ nd o ≤ 2 := by
  unfold nd
  cases decide (o ≤ 6) || (o == 33) <;> cases (o == 8) || (decide (12 ≤ o) && decide (o ≤ 28)) <;> simp
theorem both_hb {H H' : Nat → Int} (h : Hb H) {k k' : Nat} {x x' : Int} (h1 : 0 ≤ x) (h2 : x ≤ k) (h3 : 0 ≤ x') (h4 : x' ≤ k') (e : both H k x k' x' = some H') : Hb H' := by
  unfold both at e
  split at e
  · split at e
    · cases e; exact ld_hb (ld_hb h h1 h2) h3 h4
    · cases e
  · cases e
theorem one_hb {H H' : Nat → Int} (h : Hb H) {k : Nat} {x : Int} (h1 : 0 ≤ x) (h2 : x ≤ k) (e : one H k x = some H') : Hb H' := by
  unfold one at e
  split at e
  · cases e; exact ld_hb h h1 h2
  · cases e
theorem nd30 : nd 30 = 1 := by decide
theorem nd31 : nd 31 = 1 := by decide
theorem nd32 : nd 32 = 1 := by decide
theorem nd33 : nd 33 = 0 := by decide
theorem lon_hb {H H' : Nat → Int} (h : Hb H) {i : Nat} {o a : Int} (ha : ijp o = true → (i : Int) < a) (e : lon H i o a = some H') : Hb H' := by
  have hi := h i
  have hn := nd_range o
  have hj : o = 30 ∨ o = 31 ∨ o = 32 ∨ o = 33 → (i : Int) < a := fun hh => ha (by unfold ijp; rcases hh with rfl | rfl | rfl | rfl <;> decide)
  unfold lon at e
  split at e
  · cases e
  · next h1 =>
    split at e
    · next h2 =>
      have hk := hj (by omega)
      have : nd o = 1 := by rcases h2 with rfl | rfl; exact nd30; exact nd31
      exact both_hb h (by omega) (by omega) (by omega) (by omega) e
    · split at e
      · next h2 =>
        have hk := hj (by omega)
        exact both_hb h (by omega) (by omega) (by omega) (by omega) e
      · split at e
        · next h2 =>
          have hk := hj (by omega)
          exact one_hb h (by omega) (by omega) e
        · exact one_hb h (by omega) (by omega) e
theorem fl_hb {n : Nat} {t d : Int} {H H' : Nat → Int} (h : Hb H) {i : Nat} {x : Ins} (e : fl n t d H i x = .ok H') : Hb H' := by
  unfold fl at e
  split at e
  · cases e
  split at e
  · cases e
  split at e
  · cases e
  split at e
  · cases e
  next hj =>
    split at e
    · cases e
    · next hl =>
      cases e
      refine lon_hb h (fun hp => ?_) hl
      exact Int.lt_of_not_ge fun hh => hj ⟨hp, .inl hh⟩
end Go.Proofs.YthjbknncbhkinaaGreatDoor.CPu

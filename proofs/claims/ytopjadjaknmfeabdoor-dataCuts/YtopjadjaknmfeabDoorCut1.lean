/- Texts that are cut, read: words, numbers, texts: plain. -/
import Derived.Test.YtopjadjaknmfeabDoorPf28
import Derived.Test.YtopjadjaknmfeabDoorPf31
namespace Go.Proofs.YtopjadjaknmfeabDoor.Cut1
open Go.RowKit Go.Proofs.YtopjadjaknmfeabDoor.Base Go.Proofs.YtopjadjaknmfeabDoor.UBase Go.Proofs.YtopjadjaknmfeabDoor.Spec Go.Proofs.YtopjadjaknmfeabDoor.Sums Go.Proofs.YtopjadjaknmfeabDoor.Nums Go.Proofs.YtopjadjaknmfeabDoor.Dec Go.Proofs.YtopjadjaknmfeabDoor.RBt Go.Proofs.YtopjadjaknmfeabDoor.RBv
set_option linter.unusedVariables false

/-- L stands in s from i on, cut by the end of s. -/
def Cu (s : ByteArray) (i : Nat) (L : List UInt8) : Prop := i ≤ s.size ∧ s.size < i + L.length ∧ ∀ j x, L[j]? = some x → i + j < s.size → at' s (i + j) = x.toNat
/-- The fault of a text that is cut. -/
def Pl (s : ByteArray) (p : Nat) : Prop := p = s.size ∨ (p < s.size ∧ s.size - p < 4 ∧ 194 ≤ at' s p)
def Er {α : Type} (s : ByteArray) (X : Except F α) : Prop := ∃ p, X = .error (600, p) ∧ Pl s p
theorem Er.end {α : Type} (s : ByteArray) : Er (α := α) s (.error (600, s.size)) := ⟨_, rfl, .inl rfl⟩
variable {s : ByteArray}
theorem Cu.head {i : Nat} {x : UInt8} {L : List UInt8} (h : Cu s i (x :: L)) (hi : i < s.size) : at' s i = x.toNat := by simpa using h.2.2 0 x rfl (by omega)
theorem Cu.tail {i : Nat} {x : UInt8} {L : List UInt8} (h : Cu s i (x :: L)) (hi : i < s.size) : Cu s (i + 1) L := by
  refine ⟨by omega, by have := h.2.1; rw [List.length_cons] at this; omega, fun j y hy hj => ?_⟩
  have := h.2.2 (j + 1) y (by simpa using hy) (by omega)
  rw [← this]
  congr 1
  omega
/-- Cut in the front, or the front stands whole. -/
theorem Cu.split {i : Nat} {L M : List UInt8} (h : Cu s i (L ++ M)) : Cu s i L ∨ (St s i L ∧ Cu s (i + L.length) M) := by
  obtain ⟨h1, h2, h3⟩ := h
  rw [List.length_append] at h2
  have hL : ∀ j x, L[j]? = some x → i + j < s.size → at' s (i + j) = x.toNat := fun j x hx hj => h3 j x (by rw [List.getElem?_append_left (List.getElem?_eq_some_iff.1 hx).1]; exact hx) hj
  by_cases hc : s.size < i + L.length
  · exact .inl ⟨h1, hc, hL⟩
  · refine .inr ⟨⟨by omega, fun j x hx => hL j x hx (by have := (List.getElem?_eq_some_iff.1 hx).1; omega)⟩, by omega, by omega, fun j x hx hj => ?_⟩
    have := h3 (L.length + j) x (by rw [List.getElem?_append_right (by omega), Nat.add_sub_cancel_left]; exact hx) (by omega)
    rw [← this]
    congr 1
    omega
theorem at_size (s : ByteArray) : at' s s.size = 0 := at_out s _ (by omega)
theorem at_ge {i : Nat} (h : s.size ≤ i) : at' s i = 0 := at_out s _ (by omega)
theorem wd_cut : ∀ (cs : List UInt8) (ns : List Nat) (i : Nat), ns = cs.map UInt8.toNat → (∀ c ∈ ns, c ≠ 0) → Cu s i cs → wd s ns i = .error (600, s.size)
  | [], _, i, _, _, h => by have := h.1; have := h.2.1; rw [List.length_nil] at this; omega
  | c :: cs, _, i, rfl, hc, h => by
    rw [List.map_cons, wd]
    by_cases hi : i < s.size
    · rw [if_pos (h.head hi)]
      exact wd_cut cs _ (i + 1) rfl (fun x hx => hc x (List.mem_cons_of_mem _ hx)) (h.tail hi)
    · have e : i = s.size := by have := h.1; omega
      subst e
      rw [if_neg]
      rw [at_size]
      exact fun e => hc c.toNat List.mem_cons_self e.symm
/-- Digits up to the end. -/
theorem dgs_cut : ∀ (L : List UInt8) (i : Nat), L.all isDig = true → Cu s i L → dgs s i = s.size
  | [], i, _, h => by have := h.1; have := h.2.1; rw [List.length_nil] at this; omega
  | x :: L, i, ha, h => by
    rw [List.all_cons, Bool.and_eq_true] at ha
    by_cases hi : i < s.size
    · rw [dgs_step hi (by rw [h.head hi]; exact dig_of ha.1)]
      exact dgs_cut L (i + 1) ha.2 (h.tail hi)
    · rw [dgs_end hi]
      have := h.1
      omega
/-- What stands of a cut row is its front. -/
theorem cut_front {i : Nat} {L : List UInt8} (h : Cu s i L) : St s i (L.take (s.size - i)) ∧ (L.take (s.size - i)).length = s.size - i := by
  obtain ⟨h1, h2, h3⟩ := h
  have hl : (L.take (s.size - i)).length = s.size - i := by rw [List.length_take]; omega
  refine ⟨⟨by omega, fun j x hx => ?_⟩, hl⟩
  have hj := (List.getElem?_eq_some_iff.1 hx).1
  rw [List.getElem?_take_of_lt (by omega)] at hx
  exact h3 j x hx (by omega)
theorem foldl_ge : ∀ (m : List UInt8) (a : Nat), a ≤ m.foldl (fun n c => n * 10 + (c.toNat - 48)) a
  | [], a => Nat.le_refl _
  | c :: m, a => by
    rw [List.foldl_cons]
    have := foldl_ge m (a * 10 + (c.toNat - 48))
    omega
theorem val_take (l : List UInt8) (m : Nat) : val (l.take m) ≤ val l := by
  conv => rhs; rw [← List.take_append_drop m l]
  rw [val, val, List.foldl_append]
  exact foldl_ge _ _
theorem pos_take {l : List UInt8} (h : posForm l = true) {m : Nat} (hm : 0 < m) : posForm (l.take m) = true := by
  obtain ⟨d, r, rfl, h48, hall⟩ := pos_head h
  obtain ⟨m, rfl⟩ : ∃ q, m = q + 1 := ⟨m - 1, by omega⟩
  rw [List.take_succ_cons]
  have e : ((d :: r.take m).all isDig) = true := by
    rw [List.all_eq_true] at hall ⊢
    intro x hx
    rcases List.mem_cons.1 hx with rfl | hx
    · exact hall _ List.mem_cons_self
    · exact hall _ (List.mem_cons_of_mem _ (List.mem_of_mem_take hx))
  show ((d.toNat != 48) && (d :: r.take m).all isDig) = true
  rw [e]
  simp [h48]
theorem perr_neg {D : List UInt8} (h : posForm D = true) (hv : val D ≤ 9223372036854775808) : perr (45 :: D) = 0 := by
  have e1 : bl (45 :: D) = true := rfl
  have e2 : dl (45 :: D) = D := by rw [dl, if_pos e1]; rfl
  have g : good (45 :: D) = true := by rw [good, e2, h, Bool.or_true]
  rw [perr, if_pos g, pval, e1, e2, sg_true]
  exact err_in (by omega) (by omega)
theorem perr_pos {D : List UInt8} (h : posForm D = true) (hv : val D ≤ 9223372036854775807) : perr D = 0 := by
  obtain ⟨d, r, rfl, h48, hall⟩ := pos_head h
  have hd := isDig_le (List.all_eq_true.1 hall d List.mem_cons_self)
  have e1 : bl (d :: r) = false := by
    have : d ≠ 45 := fun e => by subst e; exact absurd hd.1 (by decide)
    simp [bl, this]
  have e2 : dl (d :: r) = d :: r := by rw [dl, if_neg (by rw [e1]; decide)]
  have g : good (d :: r) = true := by rw [good, e2, h, Bool.or_true]
  rw [perr, if_pos g, pval, e1, e2, sg_false]
  exact err_in (by omega) (by omega)
theorem nm_cut {i : Nat} {x : Int} (hx : -9223372036854775808 ≤ x ∧ x ≤ 9223372036854775807) (h : Cu s i (Lib.itoa x)) (hi : i < s.size) : nm s i = .error (600, s.size) ∨ ∃ y, nm s i = .ok (y, s.size) := by
  by_cases hneg : x < 0
  · obtain ⟨u, hu, rfl⟩ : ∃ u : Nat, 1 ≤ u ∧ x = -(u : Int) := ⟨x.natAbs, by omega, by omega⟩
    rw [Lib.itoa_neg u hu] at h
    have hp := posForm_digits (N := u) (by omega)
    have hh : at' s i = 45 := h.head hi
    have hs : sgn s i = i + 1 := by rw [sgn, if_pos hh]
    have ht := h.tail hi
    by_cases h1 : i + 1 < s.size
    · right
      obtain ⟨d, r, e, hd48, hall⟩ := pos_head hp
      have ha : at' s (i + 1) = d.toNat := by rw [e] at ht; exact ht.head h1
      have hdg : dig (at' s (i + 1)) = true := by rw [ha]; exact dig_of (List.all_eq_true.1 hall d List.mem_cons_self)
      have hrun := dgs_cut (Lib.decDigits u) (i + 1) (by rw [e]; exact hall) ht
      obtain ⟨hf, hl⟩ := cut_front h
      obtain ⟨m, hm⟩ : ∃ m, s.size - i = m + 1 := ⟨s.size - i - 1, by omega⟩
      rw [hm, List.take_succ_cons] at hf hl
      have hb := ext_bs hf
      rw [hl, show i + (m + 1) = s.size by omega] at hb
      refine ⟨pnum (45 :: (Lib.decDigits u).take m), ?_⟩
      rw [nm, hs, hdg, if_neg (by simp), if_neg (by omega), hrun, rd, hb, perr_neg (pos_take hp (by omega)) (by have := val_take (Lib.decDigits u) m; rw [val_digits] at this; omega), if_pos rfl]
    · left
      have e : i + 1 = s.size := by omega
      rw [nm, hs, e, at_size, if_pos (by decide)]
  · obtain ⟨u, rfl⟩ : ∃ u : Nat, x = (u : Int) := ⟨x.natAbs, by omega⟩
    rw [Lib.itoa_nonneg u] at h
    by_cases hu : u = 0
    · subst hu
      rw [Lib.decDigits_one (by omega)] at h
      have := h.2.1
      simp at this
      omega
    · right
      have hp := posForm_digits (N := u) (by omega)
      obtain ⟨d, r, e, hd48, hall⟩ := pos_head hp
      have hdd := isDig_le (List.all_eq_true.1 hall d List.mem_cons_self)
      have ha : at' s i = d.toNat := by rw [e] at h; exact h.head hi
      have hs : sgn s i = i := by rw [sgn, if_neg (by omega)]
      have hdg : dig (at' s i) = true := by rw [ha]; exact dig_of (List.all_eq_true.1 hall d List.mem_cons_self)
      have hrun := dgs_cut (Lib.decDigits u) i (by rw [e]; exact hall) h
      obtain ⟨hf, hl⟩ := cut_front h
      have hb := ext_bs hf
      rw [hl, show i + (s.size - i) = s.size by omega] at hb
      refine ⟨pnum ((Lib.decDigits u).take (s.size - i)), ?_⟩
      rw [nm, hs, hdg, if_neg (by simp), if_neg (by omega), hrun, rd, hb, perr_pos (pos_take hp (by omega)) (by have := val_take (Lib.decDigits u) (s.size - i); rw [val_digits] at this; omega), if_pos rfl]
/-- A character that is cut. -/
theorem chr_end : chr s s.size = .error (600, s.size) := by
  rw [chr, at_size, if_neg (by decide), if_pos (.inl (by decide))]
theorem chr_cut {i : Nat} {x : UInt8} (h : Cu s i (qb x)) : Er s (chr s i) := by
  by_cases hi : i < s.size
  · have two : ∀ y : UInt8, Cu s i [92, y] → Er s (chr s i) := by
      intro y hc
      have h0 : at' s i = 92 := hc.head hi
      have e : i + 1 = s.size := by have := hc.2.1; simp at this; omega
      rw [chr, if_pos h0, esc, e, at_size, if_neg (by decide)]
      exact Er.end s
    unfold qb at h
    by_cases c1 : x = 34
    · rw [if_pos c1] at h; exact two _ h
    rw [if_neg c1] at h
    by_cases c2 : x = 92
    · rw [if_pos c2] at h; exact two _ h
    rw [if_neg c2] at h
    by_cases c3 : x = 8
    · rw [if_pos c3] at h; exact two _ h
    rw [if_neg c3] at h
    by_cases c4 : x = 12
    · rw [if_pos c4] at h; exact two _ h
    rw [if_neg c4] at h
    by_cases c5 : x = 10
    · rw [if_pos c5] at h; exact two _ h
    rw [if_neg c5] at h
    by_cases c6 : x = 13
    · rw [if_pos c6] at h; exact two _ h
    rw [if_neg c6] at h
    by_cases c7 : x = 9
    · rw [if_pos c7] at h; exact two _ h
    rw [if_neg c7] at h
    by_cases c8 : x.toNat < 32
    · rw [if_pos c8] at h
      have h0 : at' s i = 92 := h.head hi
      have t1 := h.tail hi
      rw [chr, if_pos h0, esc]
      by_cases h1 : i + 1 < s.size
      · have a1 : at' s (i + 1) = 117 := t1.head h1
        have t2 := t1.tail h1
        rw [if_pos a1, unt]
        obtain ⟨q1, -⟩ := hx_digit (n := x.toNat / 16) (by omega)
        obtain ⟨q3, -⟩ := hx_digit (n := x.toNat % 16) (by omega)
        have hc : ∀ (L : List UInt8) (j : Nat), (∀ y ∈ L, hxd y.toNat = true) → Cu s j L → hcn s L.length j = s.size - j := by
          intro L
          induction L with
          | nil => intro j _ hj; have := hj.1; have := hj.2.1; rw [List.length_nil] at this; omega
          | cons y L ih =>
            intro j hy hj
            rw [List.length_cons, hcn]
            by_cases hlt : j < s.size
            · rw [hj.head hlt, if_pos (hy y List.mem_cons_self), ih (j + 1) (fun z hz => hy z (List.mem_cons_of_mem _ hz)) (hj.tail hlt)]
              omega
            · have e : j = s.size := by have := hj.1; omega
              subst e
              rw [at_size, if_neg (by decide)]
              omega
        have h4 : hcn s 4 (i + 2) = s.size - (i + 2) := hc [48, 48, hxc (x.toNat / 16), hxc (x.toNat % 16)] (i + 2) (by
          intro y hy
          simp only [List.mem_cons, List.not_mem_nil, or_false] at hy
          rcases hy with rfl | rfl | rfl | rfl
          · decide
          · decide
          · exact q1
          · exact q3) t2
        have hlt : s.size < i + 2 + 4 := by have := t2.2.1; simpa using this
        have hle := t2.1
        rw [h4, if_pos (by omega), show i + 2 + (s.size - (i + 2)) = s.size by omega]
        exact Er.end s
      · have e : i + 1 = s.size := by omega
        rw [e, at_size, if_neg (by decide)]
        exact Er.end s
    · rw [if_neg c8] at h
      have := h.2.1
      simp at this
      omega
  · have e : i = s.size := by have := h.1; omega
    subst e
    rw [chr_end]
    exact Er.end s
theorem len_cut {t : ByteArray} {i k : Nat} (hl : len t k ≠ 0) (ha : 128 ≤ at' t k) (h1 : i < s.size) (h2 : s.size < i + len t k) (h : ∀ j, j < len t k → i + j < s.size → at' s (i + j) = at' t (k + j)) : len s i = 0 ∧ 194 ≤ at' s i ∧ s.size - i < 4 := by
  have h0 := h 0 (by omega) (by omega)
  simp only [Nat.add_zero] at h0
  have z : ∀ j, s.size ≤ i + j → tl s (i + j) = false := fun j hj => by
    cases hc : tl s (i + j) with
    | false => rfl
    | true => rw [tl_iff, at_ge hj] at hc; omega
  rcases len_parts t k with e | ⟨e, e0⟩ | ⟨e, e0, e1⟩ | ⟨e, e0, e1, e2⟩ | ⟨e, e0, e1, e2, e3⟩
  · exact (hl e).elim
  · omega
  · have z1 := z 1 (by omega)
    refine ⟨?_, by omega, by omega⟩
    unfold len
    rw [if_neg (by omega), if_neg (by simp [z1]), if_neg (by simp [z1]), if_neg (by simp [z1])]
  · have z2 := z 2 (by omega)
    have h224 : 224 ≤ at' t k := by
      refine Decidable.byContradiction fun hn => ?_
      unfold len at e
      rw [if_neg (by omega), if_pos ⟨by omega, by omega, e1⟩] at e
      omega
    refine ⟨?_, by omega, by omega⟩
    unfold len
    rw [if_neg (by omega), if_neg (by omega), if_neg (by simp [z2]), if_neg (by simp [z2])]
  · have z3 := z 3 (by omega)
    have h240 : 240 ≤ at' t k := by
      refine Decidable.byContradiction fun hn => ?_
      unfold len at e
      rw [if_neg (by omega)] at e
      by_cases h2 : at' t k < 224
      · rw [if_pos ⟨by omega, h2, e1⟩] at e; omega
      · rw [if_neg (by omega), if_pos ⟨by omega, by omega, e1, e2⟩] at e
        split at e <;> omega
    refine ⟨?_, by omega, by omega⟩
    unfold len
    rw [if_neg (by omega), if_neg (by omega), if_neg (by omega), if_neg (by simp [z3])]
theorem qb_ne (x : UInt8) : qb x ≠ [] := by
  unfold qb
  repeat' split
  all_goals simp
theorem txl_cut {t : ByteArray} : ∀ (n k i f : Nat) (acc : List UInt8), t.size - k ≤ n → k ≤ t.size → bad t k = none → Cu s i ((t.data.toList.drop k).flatMap qb ++ [34]) → s.size - i < f → Er s (txl s f i acc) := by
  intro n
  have done : ∀ (i f : Nat) (acc : List UInt8), ¬ i < s.size → i ≤ s.size → s.size - i < f → Er s (txl s f i acc) := by
    intro i f acc h1 h2 hf
    have e : i = s.size := by omega
    subst e
    obtain ⟨f, rfl⟩ : ∃ g, f = g + 1 := ⟨f - 1, by omega⟩
    rw [txl, at_size, if_neg (by decide), chr_end]
    exact Er.end s
  induction n with
  | zero =>
    intro k i f acc hn hk hb hs hf
    have e : t.data.toList.drop k = [] := List.drop_eq_nil_of_le (by simp; omega)
    rw [e] at hs
    have h2 := hs.2.1
    simp at h2
    exact done i f acc (by omega) hs.1 hf
  | succ n ih =>
    intro k i f acc hn hk hb hs hf
    by_cases hi : i < s.size
    · by_cases hk' : k < t.size
      · obtain ⟨f, rfl⟩ : ∃ g, f = g + 1 := ⟨f - 1, by omega⟩
        have hl : len t k ≠ 0 := fun e => by rw [bad_here hk' e] at hb; cases hb
        have hin := len_in hk'
        rw [bad_step hk' hl] at hb
        by_cases ha : at' t k < 128
        · have h1 : len t k = 1 := by rw [len, if_pos ha]
          rw [h1] at hb
          obtain ⟨x, hx, e⟩ := drop_cons hk'
          rw [e, List.flatMap_cons, List.append_assoc] at hs
          rcases hs.split with hc | ⟨hst, hc⟩
          · have hne : at' s i ≠ 34 := by
              intro h34
              have hq := qb_ne x
              cases hqb : qb x with
              | nil => exact hq hqb
              | cons y r =>
                rw [hqb] at hc
                have := hc.head hi
                have hl2 := hc.2.1
                cases r with
                | nil => simp at hl2; omega
                | cons z r =>
                  have h92 : y = 92 := by
                    unfold qb at hqb
                    repeat' split at hqb
                    all_goals first | (injection hqb with a b; exact a.symm) | (simp at hqb)
                  rw [h92] at this
                  rw [this] at h34
                  exact absurd h34 (by decide)
            obtain ⟨p, ep, hp⟩ := chr_cut hc
            rw [txl, if_neg hne, ep]
            exact ⟨p, rfl, hp⟩
          · obtain ⟨c1, c2⟩ := chr_back (by omega) hst
            have hpos : 0 < (qb x).length := List.length_pos_iff.2 (qb_ne x)
            rw [txl, if_neg c1, c2]
            dsimp only
            exact ih (k + 1) _ f _ (by omega) (by omega) hb hc (by omega)
        · have ha' : 128 ≤ at' t k := by omega
          obtain ⟨d1, d2, d3⟩ := dec_good hl ha'
          have hlen : ((t.data.toList.drop k).take (len t k)).length = len t k := by
            rw [List.length_take, List.length_drop]
            have : t.data.toList.length = t.size := by simp
            omega
          have e : t.data.toList.drop k = (t.data.toList.drop k).take (len t k) ++ t.data.toList.drop (k + len t k) := by
            rw [← List.drop_drop, List.take_append_drop]
          have hat : ∀ j x, ((t.data.toList.drop k).take (len t k))[j]? = some x → at' t (k + j) = x.toNat ∧ j < len t k := by
            intro j x hx
            have hj := (List.getElem?_eq_some_iff.1 hx).1
            rw [hlen] at hj
            rw [List.getElem?_take_of_lt hj] at hx
            exact ⟨(at_drop hx).1, hj⟩
          have hbig : ∀ j, j < len t k → 128 ≤ at' t (k + j) := by
            intro j hj
            rcases len_parts t k with e | ⟨e, e0⟩ | ⟨e, e0, e1⟩ | ⟨e, e0, e1, e2⟩ | ⟨e, e0, e1, e2, e3⟩
            · omega
            · omega
            · rw [tl_iff] at e1
              obtain rfl | rfl : j = 0 ∨ j = 1 := by omega
              · exact ha'
              · exact e1.1
            · rw [tl_iff] at e1 e2
              obtain rfl | rfl | rfl : j = 0 ∨ j = 1 ∨ j = 2 := by omega
              · exact ha'
              · exact e1.1
              · exact e2.1
            · rw [tl_iff] at e1 e2 e3
              obtain rfl | rfl | rfl | rfl : j = 0 ∨ j = 1 ∨ j = 2 ∨ j = 3 := by omega
              · exact ha'
              · exact e1.1
              · exact e2.1
              · exact e3.1
          have hflat : ((t.data.toList.drop k).take (len t k)).flatMap qb = (t.data.toList.drop k).take (len t k) := by
            refine flat_high fun x hx => ?_
            obtain ⟨j, hj, rfl⟩ := List.getElem_of_mem hx
            obtain ⟨a1, a2⟩ := hat j _ (List.getElem?_eq_getElem hj)
            rw [← a1]
            exact hbig j a2
          generalize (t.data.toList.drop k).take (len t k) = M at *
          rw [e, List.flatMap_append, hflat, List.append_assoc] at hs
          have h0 : at' s i = at' t k := by
            have hm : M[0]? = some (M[0]'(by omega)) := List.getElem?_eq_getElem (by omega)
            rcases hs.split with hc | ⟨hst, -⟩
            · have := hc.2.2 0 _ hm (by omega)
              rw [← (hat 0 _ hm).1] at this
              simpa using this
            · have := hst.2 0 _ hm
              rw [← (hat 0 _ hm).1] at this
              simpa using this
          rcases hs.split with hc | ⟨hst, hc⟩
          · obtain ⟨z0, z1, z2⟩ := len_cut (s := s) (t := t) (i := i) (k := k) hl ha' hi (by have := hc.2.1; omega) (fun j hj hlt => by
              have hm : M[j]? = some (M[j]'(by omega)) := List.getElem?_eq_getElem (by omega)
              rw [(hat j _ hm).1]
              exact hc.2.2 j _ hm hlt)
            rw [txl, if_neg (by omega), chr, if_neg (by omega), if_pos (.inr z0)]
            exact ⟨i, rfl, .inr ⟨hi, z2, z1⟩⟩
          · have hag : ∀ j, j < len t k → at' s (i + j) = at' t (k + j) := by
              intro j hj
              have hm : M[j]? = some (M[j]'(by omega)) := List.getElem?_eq_getElem (by omega)
              rw [(hat j _ hm).1]
              exact hst.2 j _ hm
            obtain ⟨g1, g2⟩ := len_agree hl hag
            rw [hlen] at hc
            rw [txl, if_neg (by omega), chr, if_neg (by omega), if_neg (by omega), g1, g2]
            dsimp only
            exact ih (k + len t k) _ f _ (by omega) (by omega) hb hc (by omega)
      · have e : t.data.toList.drop k = [] := List.drop_eq_nil_of_le (by simp; omega)
        rw [e] at hs
        have h2 := hs.2.1
        simp at h2
        omega
    · exact done i f acc hi hs.1 hf
theorem txt_cut {t : ByteArray} {i : Nat} (hv : bad t 0 = none) (h : Cu s i (qt t)) : Er s (txt s i) := by
  unfold qt at h
  by_cases hi : i < s.size
  · have h0 : at' s i = 34 := h.head hi
    obtain ⟨p, ep, hp⟩ := txl_cut (s := s) (t := t) t.size 0 (i + 1) (s.size + 1) [] (by omega) (by omega) hv (by simpa using h.tail hi) (by omega)
    rw [txt, if_pos h0, ep]
    exact ⟨p, rfl, hp⟩
  · have e : i = s.size := by have := h.1; omega
    subst e
    rw [txt, at_size, if_neg (by decide)]
    exact Er.end s
end Go.Proofs.YtopjadjaknmfeabDoor.Cut1

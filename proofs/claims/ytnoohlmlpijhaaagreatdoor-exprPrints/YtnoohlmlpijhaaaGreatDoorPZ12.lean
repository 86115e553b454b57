import Derived.Lib.FieldsU
import Derived.Lib.MapLaws
import Derived.Test.YtnoohlmlpijhaaaGreatDoorPZ11
namespace Go.Proofs.YtnoohlmlpijhaaaGreatDoor.RBt
open Go.RowKit Go.Proofs.YtnoohlmlpijhaaaGreatDoor.Base Go.Proofs.YtnoohlmlpijhaaaGreatDoor.UBase Go.Proofs.YtnoohlmlpijhaaaGreatDoor.Spec Go.Proofs.YtnoohlmlpijhaaaGreatDoor.Nums Go.Proofs.YtnoohlmlpijhaaaGreatDoor.Dec
set_option linter.unusedVariables false
/-- L stands in s from i on. -/
def St (s : ByteArray) (i : Nat) (L : List UInt8) : Prop := i + L.length ≤ s.size ∧ ∀ j x, L[j]? = some x → at' s (i + j) = x.toNat
theorem St.head {s : ByteArray} {i : Nat} {x : UInt8} {L : List UInt8} (h : St s i (x :: L)) : at' s i = x.toNat := by simpa using h.2 0 x rfl
theorem St.lt {s : ByteArray} {i : Nat} {x : UInt8} {L : List UInt8} (h : St s i (x :: L)) : i < s.size := by
  have := h.1
  rw [List.length_cons] at this
  omega
theorem St.tail {s : ByteArray} {i : Nat} {x : UInt8} {L : List UInt8} (h : St s i (x :: L)) : St s (i + 1) L := by
  refine ⟨by have := h.1; rw [List.length_cons] at this; omega, fun j y hy => ?_⟩
  have := h.2 (j + 1) y (by simpa using hy)
  rw [← this]
  congr 1
  omega
theorem St.left {s : ByteArray} {i : Nat} {L M : List UInt8} (h : St s i (L ++ M)) : St s i L := by
  refine ⟨by have := h.1; rw [List.length_append] at this; omega, fun j x hx => h.2 j x ?_⟩
  rw [List.getElem?_append_left (List.getElem?_eq_some_iff.1 hx).1]
  exact hx
theorem St.right {s : ByteArray} {i : Nat} {L M : List UInt8} (h : St s i (L ++ M)) : St s (i + L.length) M := by
  refine ⟨by have := h.1; rw [List.length_append] at this; omega, fun j x hx => ?_⟩
  have := h.2 (L.length + j) x (by rw [List.getElem?_append_right (by omega), Nat.add_sub_cancel_left]; exact hx)
  rw [← this]
  congr 1
  omega
theorem St.whole (L : List UInt8) : St ⟨L.toArray⟩ 0 L := by
  have hs : (⟨L.toArray⟩ : ByteArray).size = L.length := by show L.toArray.size = _; simp
  refine ⟨by omega, fun j x hx => ?_⟩
  obtain ⟨hj, rfl⟩ := List.getElem?_eq_some_iff.1 hx
  rw [Nat.zero_add, at_get _ _ (by omega)]
  rfl
/-- Bytes of a text from a place on. -/
theorem at_drop {t : ByteArray} {k j : Nat} {x : UInt8} (h : (t.data.toList.drop k)[j]? = some x) : at' t (k + j) = x.toNat ∧ k + j < t.size := by
  rw [List.getElem?_drop] at h
  obtain ⟨hj, rfl⟩ := List.getElem?_eq_some_iff.1 h
  have hs : k + j < t.size := by simpa using hj
  refine ⟨?_, hs⟩
  rw [at_get _ _ hs]
  rfl
theorem drop_cons {t : ByteArray} {k : Nat} (h : k < t.size) : ∃ x : UInt8, x.toNat = at' t k ∧ t.data.toList.drop k = x :: t.data.toList.drop (k + 1) := by
  have h' : k < t.data.toList.length := by simpa using h
  refine ⟨t.data.toList[k], ?_, List.drop_eq_getElem_cons h'⟩
  rw [at_get _ _ h]
  rfl
theorem enc_small {n : Nat} (h : n < 128) : Lib.encodeRune (n : Int) = [UInt8.ofNat n] := by
  unfold Lib.encodeRune
  rw [Lib.encodeRuneZ_one (by omega) (by omega)]
  simp
theorem decL_eq (t : ByteArray) (k : Nat) : Lib.decodeL (t.data.toList.drop k) = Utf8.decode t k := Lib.decodeL_drop ..
/-- A character of several bytes, encoded again. -/
theorem enc_good {t : ByteArray} {k : Nat} (h : k < t.size) (hl : len t k ≠ 0) (ha : 128 ≤ at' t k) : Lib.encodeRune ((Utf8.decode t k).1 : Int) = (t.data.toList.drop k).take (len t k) := by
  obtain ⟨d1, d2, d3⟩ := dec_good hl ha
  have hne : t.data.toList.drop k ≠ [] := by
    obtain ⟨x, -, e⟩ := drop_cons h
    rw [e]
    exact List.cons_ne_nil _ _
  have := Lib.encode_decode (t.data.toList.drop k) hne (by rw [decL_eq]; rintro ⟨-, e⟩; omega)
  rw [decL_eq, d1] at this
  exact this
/-- A byte that is no sign of its own is written as it is. -/
theorem qb_high {x : UInt8} (h : 128 ≤ x.toNat) : qb x = [x] := by
  have e (n : UInt8) (hn : n.toNat < 128) : ¬ x = n := fun e => by subst e; omega
  unfold qb
  rw [if_neg (e 34 (by decide)), if_neg (e 92 (by decide)), if_neg (e 8 (by decide)), if_neg (e 12 (by decide)), if_neg (e 10 (by decide)), if_neg (e 13 (by decide)), if_neg (e 9 (by decide)), if_neg (by omega)]
theorem flat_high : ∀ {L : List UInt8}, (∀ x ∈ L, 128 ≤ x.toNat) → L.flatMap qb = L
  | [], _ => rfl
  | x :: L, h => by
    rw [List.flatMap_cons, qb_high (h x List.mem_cons_self), flat_high fun y hy => h y (List.mem_cons_of_mem _ hy)]
    rfl
theorem len4_two {a b : Nat} (ha : 194 ≤ a ∧ a < 224 ∧ 128 ≤ b ∧ b < 192) (c d : Nat) : len4 a b c d = 2 := by rw [len4, if_neg (by omega), if_pos ⟨ha.1, ha.2.1, ha.2.2⟩]
theorem dec4_two {a b : Nat} (ha : 194 ≤ a ∧ a < 224 ∧ 128 ≤ b ∧ b < 192) (c d : Nat) : dec4 a b c d = (if 128 ≤ a % 32 * 64 + b % 64 then (a % 32 * 64 + b % 64, 2) else (65533, 1)) := by rw [dec4, if_neg (by omega), if_pos ⟨by omega, by omega⟩]
theorem len4_three {a b c : Nat} (ha : 224 ≤ a ∧ a < 240 ∧ (128 ≤ b ∧ b < 192) ∧ (128 ≤ c ∧ c < 192)) (d : Nat) : len4 a b c d = (if (a = 224 ∧ b < 160) ∨ (a = 237 ∧ 160 ≤ b) then 0 else 3) := by rw [len4, if_neg (by omega), if_neg (by omega), if_pos ha]
theorem dec4_three {a b c : Nat} (ha : 224 ≤ a ∧ a < 240 ∧ (128 ≤ b ∧ b < 192) ∧ (128 ≤ c ∧ c < 192)) (d : Nat) : dec4 a b c d = (if 2048 ≤ a % 16 * 4096 + b % 64 * 64 + c % 64 ∧ (a % 16 * 4096 + b % 64 * 64 + c % 64 < 55296 ∨ (57344 ≤ a % 16 * 4096 + b % 64 * 64 + c % 64 ∧ a % 16 * 4096 + b % 64 * 64 + c % 64 ≤ 1114111)) then (a % 16 * 4096 + b % 64 * 64 + c % 64, 3) else (65533, 1)) := by
  rw [dec4, if_neg (by omega), if_neg (by omega), if_pos ⟨by omega, by omega, by omega⟩]
theorem len_agree {s t : ByteArray} {i k : Nat} (hl : len t k ≠ 0) (h : ∀ j, j < len t k → at' s (i + j) = at' t (k + j)) : len s i = len t k ∧ Utf8.decode s i = Utf8.decode t k := by
  rw [len_eq, dec_eq, dec_eq]
  have h0 := h 0 (by omega)
  simp only [Nat.add_zero] at h0
  rcases len_parts t k with e | ⟨e, e0⟩ | ⟨e, e0, e1⟩ | ⟨e, e0, e1, e2⟩ | ⟨e, e0, e1, e2, e3⟩
  · exact (hl e).elim
  · rw [len_eq, h0, len4, len4, dec4, dec4, if_pos e0, if_pos e0, if_pos e0, if_pos e0]
    exact ⟨rfl, rfl⟩
  · have h1 := h 1 (by omega)
    rw [len_eq] at e ⊢
    rw [h0, h1]
    rw [tl_iff] at e1
    generalize at' t k = a at *
    generalize at' t (k + 1) = b at *
    have ha : 194 ≤ a ∧ a < 224 ∧ 128 ≤ b ∧ b < 192 := by
      refine Decidable.byContradiction fun hn => ?_
      rw [len4, if_neg (by omega), if_neg hn] at e
      repeat' split at e
      all_goals omega
    constructor
    · rw [len4_two ha, len4_two ha]
    · rw [dec4_two ha, dec4_two ha]
  · have h1 := h 1 (by omega)
    have h2 := h 2 (by omega)
    rw [len_eq] at e ⊢
    rw [h0, h1, h2]
    rw [tl_iff] at e1 e2
    generalize at' t k = a at *
    generalize at' t (k + 1) = b at *
    generalize at' t (k + 2) = c at *
    have ha : 224 ≤ a ∧ a < 240 := by
      refine Decidable.byContradiction fun hn => ?_
      rw [len4, if_neg (by omega)] at e
      repeat' split at e
      all_goals omega
    have hc : 224 ≤ a ∧ a < 240 ∧ (128 ≤ b ∧ b < 192) ∧ (128 ≤ c ∧ c < 192) := ⟨ha.1, ha.2, e1, e2⟩
    constructor
    · rw [len4_three hc, len4_three hc]
    · rw [dec4_three hc, dec4_three hc]
  · have h1 := h 1 (by omega)
    have h2 := h 2 (by omega)
    have h3 := h 3 (by omega)
    rw [len_eq, h0, h1, h2, h3]
    exact ⟨rfl, rfl⟩
/-- One byte below 128, read back. -/
theorem hx_digit {n : Nat} (h : n < 16) : hxd (hxc n).toNat = true ∧ hxv (hxc n).toNat = n := by
  have : ∀ i : Fin 16, hxd (hxc i.val).toNat = true ∧ hxv (hxc i.val).toNat = i.val := by decide
  exact this ⟨n, h⟩
theorem chr_back {s : ByteArray} {i : Nat} {x : UInt8} (hx : x.toNat < 128) (h : St s i (qb x)) : at' s i ≠ 34 ∧ chr s i = .ok (x.toNat, i + (qb x).length) := by
  have key : ∀ (y : UInt8) (z : Nat), St s i [92, y] → y.toNat ≠ 117 → ltr y.toNat = some z → at' s i ≠ 34 ∧ chr s i = .ok (z, i + 2) := by
    intro y z hs hy hl
    have h0 := hs.head
    have h1 := hs.tail.head
    rw [chr, h0, if_pos (by decide), esc, h1, if_neg hy, hl]
    exact ⟨by decide, rfl⟩
  unfold qb at h ⊢
  by_cases c1 : x = 34
  · subst c1; exact key 34 34 h (by decide) (by decide)
  rw [if_neg c1] at h ⊢
  by_cases c2 : x = 92
  · subst c2; exact key 92 92 h (by decide) (by decide)
  rw [if_neg c2] at h ⊢
  by_cases c3 : x = 8
  · subst c3; exact key 98 8 h (by decide) (by decide)
  rw [if_neg c3] at h ⊢
  by_cases c4 : x = 12
  · subst c4; exact key 102 12 h (by decide) (by decide)
  rw [if_neg c4] at h ⊢
  by_cases c5 : x = 10
  · subst c5; exact key 110 10 h (by decide) (by decide)
  rw [if_neg c5] at h ⊢
  by_cases c6 : x = 13
  · subst c6; exact key 114 13 h (by decide) (by decide)
  rw [if_neg c6] at h ⊢
  by_cases c7 : x = 9
  · subst c7; exact key 116 9 h (by decide) (by decide)
  rw [if_neg c7] at h ⊢
  by_cases c8 : x.toNat < 32
  · rw [if_pos c8] at h ⊢
    have h0 := h.head
    have h1 := h.tail.head
    have h2 := h.tail.tail.head
    have h3 := h.tail.tail.tail.head
    have h4 := h.tail.tail.tail.tail.head
    have h5 := h.tail.tail.tail.tail.tail.head
    obtain ⟨q1, q2⟩ := hx_digit (n := x.toNat / 16) (by omega)
    obtain ⟨q3, q4⟩ := hx_digit (n := x.toNat % 16) (by omega)
    rw [show i + 1 + 1 = i + 2 by omega] at h2
    rw [show i + 1 + 1 + 1 = i + 2 + 1 by omega] at h3
    rw [show i + 1 + 1 + 1 + 1 = i + 2 + 2 by omega] at h4
    rw [show i + 1 + 1 + 1 + 1 + 1 = i + 2 + 3 by omega] at h5
    have hc : hcn s 4 (i + 2) = 4 := by
      simp only [hcn]
      rw [show i + 2 + 1 + 1 = i + 2 + 2 by omega, show i + 2 + 2 + 1 = i + 2 + 3 by omega, h2, h3, h4, h5, q1, q3]
      decide
    have hv : hvl s (i + 2) = x.toNat := by
      unfold hvl
      rw [h2, h3, h4, h5, q2, q4, show hxv (48 : UInt8).toNat = 0 by decide]
      omega
    rw [chr, h0, if_pos (by decide), esc, h1, if_pos (by decide), unt, hc, hv, if_neg (by omega), if_pos (by omega)]
    exact ⟨by decide, rfl⟩
  · rw [if_neg c8] at h ⊢
    have h0 := h.head
    have n34 : x.toNat ≠ 34 := fun e => c1 (UInt8.toNat_inj.1 e)
    have n92 : x.toNat ≠ 92 := fun e => c2 (UInt8.toNat_inj.1 e)
    have hlen : len s i = 1 := by rw [len, if_pos (by omega)]
    rw [chr, if_neg (by omega), if_neg (by omega), dec_small (by omega), hlen, h0]
    exact ⟨n34, rfl⟩
/-- The characters of a valid text, read back. -/
theorem txl_back {s t : ByteArray} : ∀ (n k : Nat) (i f : Nat) (acc : List UInt8), t.size - k ≤ n → k ≤ t.size → bad t k = none → St s i ((t.data.toList.drop k).flatMap qb ++ [34]) → t.size - k < f →
    txl s f i acc = .ok (acc ++ t.data.toList.drop k, i + ((t.data.toList.drop k).flatMap qb).length + 1) := by
  intro n
  induction n with
  | zero =>
    intro k i f acc hn hk hb hs hf
    have e : t.data.toList.drop k = [] := List.drop_eq_nil_of_le (by simp; omega)
    rw [e] at hs ⊢
    obtain ⟨f, rfl⟩ : ∃ g, f = g + 1 := ⟨f - 1, by omega⟩
    have h0 := St.head (L := []) hs
    rw [txl, if_pos (by rw [h0]; rfl)]
    simp
  | succ n ih =>
    intro k i f acc hn hk hb hs hf
    by_cases hk' : k < t.size
    · obtain ⟨f, rfl⟩ : ∃ g, f = g + 1 := ⟨f - 1, by omega⟩
      have hl : len t k ≠ 0 := fun e => by rw [bad_here hk' e] at hb; cases hb
      have hin := len_in hk'
      rw [bad_step hk' hl] at hb
      by_cases ha : at' t k < 128
      · have h1 : len t k = 1 := by rw [len, if_pos ha]
        rw [h1] at hb
        obtain ⟨x, hx, e⟩ := drop_cons hk'
        rw [e] at hs ⊢
        rw [List.flatMap_cons, List.append_assoc] at hs
        rw [List.flatMap_cons]
        obtain ⟨c1, c2⟩ := chr_back (by omega) hs.left
        rw [txl, if_neg c1, c2]
        dsimp only
        rw [enc_small (by omega), ih (k + 1) _ f _ (by omega) (by omega) hb hs.right (by omega)]
        have : UInt8.ofNat x.toNat = x := by simp
        rw [this]
        simp only [List.append_assoc, List.singleton_append, List.length_append]
        rw [show i + (qb x).length + (List.flatMap qb (List.drop (k + 1) t.data.toList)).length + 1 = i + ((qb x).length + (List.flatMap qb (List.drop (k + 1) t.data.toList)).length) + 1 by omega]
      · have ha' : 128 ≤ at' t k := by omega
        obtain ⟨d1, d2, d3⟩ := dec_good hl ha'
        have hlen : ((t.data.toList.drop k).take (len t k)).length = len t k := by
          rw [List.length_take, List.length_drop]
          have : t.data.toList.length = t.size := by simp
          omega
        have e : t.data.toList.drop k = (t.data.toList.drop k).take (len t k) ++ t.data.toList.drop (k + len t k) := by
          rw [← List.drop_drop, List.take_append_drop]
        have hat : ∀ j x, ((t.data.toList.drop k).take (len t k))[j]? = some x → at' t (k + j) = x.toNat ∧ j < len t k := by
          intro j x hx
          have hj := (List.getElem?_eq_some_iff.1 hx).1
          rw [hlen] at hj
          rw [List.getElem?_take_of_lt hj] at hx
          exact ⟨(at_drop hx).1, hj⟩
        have hbig : ∀ j, j < len t k → 128 ≤ at' t (k + j) := by
          intro j hj
          rcases len_parts t k with e | ⟨e, e0⟩ | ⟨e, e0, e1⟩ | ⟨e, e0, e1, e2⟩ | ⟨e, e0, e1, e2, e3⟩
          · omega
          · omega
          · rw [tl_iff] at e1
            obtain rfl | rfl : j = 0 ∨ j = 1 := by omega
            · exact ha'
            · exact e1.1
          · rw [tl_iff] at e1 e2
            obtain rfl | rfl | rfl : j = 0 ∨ j = 1 ∨ j = 2 := by omega
            · exact ha'
            · exact e1.1
            · exact e2.1
          · rw [tl_iff] at e1 e2 e3
            obtain rfl | rfl | rfl | rfl : j = 0 ∨ j = 1 ∨ j = 2 ∨ j = 3 := by omega
            · exact ha'
            · exact e1.1
            · exact e2.1
            · exact e3.1
        have hflat : ((t.data.toList.drop k).take (len t k)).flatMap qb = (t.data.toList.drop k).take (len t k) := by
          refine flat_high fun x hx => ?_
          obtain ⟨j, hj, rfl⟩ := List.getElem_of_mem hx
          obtain ⟨a1, a2⟩ := hat j _ (List.getElem?_eq_getElem hj)
          rw [← a1]
          exact hbig j a2
        have hg := enc_good hk' hl ha'
        generalize (t.data.toList.drop k).take (len t k) = M at *
        rw [e] at hs ⊢
        rw [List.flatMap_append, hflat, List.append_assoc] at hs
        rw [List.flatMap_append, hflat]
        have hag : ∀ j, j < len t k → at' s (i + j) = at' t (k + j) := by
          intro j hj
          have hm : M[j]? = some (M[j]'(by omega)) := List.getElem?_eq_getElem (by omega)
          rw [(hat j _ hm).1]
          exact hs.left.2 j _ hm
        obtain ⟨g1, g2⟩ := len_agree hl hag
        have h0 := hag 0 (by omega)
        simp only [Nat.add_zero] at h0
        have hr := hs.right
        rw [hlen] at hr
        rw [txl, if_neg (by omega), chr, if_neg (by omega), if_neg (by omega), g1, g2]
        dsimp only
        rw [hg, ih (k + len t k) _ f _ (by omega) (by omega) hb hr (by omega)]
        simp only [List.append_assoc, List.length_append, hlen]
        rw [show i + len t k + (List.flatMap qb (List.drop (k + len t k) t.data.toList)).length + 1 = i + (len t k + (List.flatMap qb (List.drop (k + len t k) t.data.toList)).length) + 1 by omega]
    · have e : t.data.toList.drop k = [] := List.drop_eq_nil_of_le (by simp; omega)
      rw [e] at hs ⊢
      obtain ⟨f, rfl⟩ : ∃ g, f = g + 1 := ⟨f - 1, by omega⟩
      have h0 := St.head (L := []) hs
      rw [txl, if_pos (by rw [h0]; rfl)]
      simp
theorem flat_ge : ∀ L : List UInt8, L.length ≤ (L.flatMap qb).length
  | [] => by simp
  | x :: L => by
    have ih := flat_ge L
    have : 1 ≤ (qb x).length := by
      unfold qb
      repeat' split
      all_goals simp
    rw [List.flatMap_cons, List.length_append, List.length_cons]
    omega
theorem txt_back {s t : ByteArray} {i : Nat} (hv : bad t 0 = none) (ht : t.size ≤ 4096) (h : St s i (qt t)) : txt s i = .ok (t, i + (qt t).length) := by
  unfold qt at h ⊢
  have h0 := h.head
  have hb := h.tail
  have hlen : t.data.toList.length = t.size := by simp
  have hsz := hb.1
  rw [List.length_append] at hsz
  have hge := flat_ge t.data.toList
  have := txl_back (s := s) (t := t) t.size 0 (i + 1) (s.size + 1) [] (by omega) (by omega) hv (by simpa using hb) (by omega)
  rw [txt, if_pos (by rw [h0]; rfl), this]
  dsimp only
  simp only [List.drop_zero, List.nil_append, List.length_cons, List.length_append, List.length_nil]
  rw [if_neg (by omega), show i + 1 + (List.flatMap qb t.data.toList).length + 1 = i + ((List.flatMap qb t.data.toList).length + (0 + 1) + 1) by omega]
end Go.Proofs.YtnoohlmlpijhaaaGreatDoor.RBt

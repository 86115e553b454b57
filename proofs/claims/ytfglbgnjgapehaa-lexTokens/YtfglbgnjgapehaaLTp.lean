/- Templates: what is escaped, lexed (no walk). -/
import Derived.Test.YtfglbgnjgapehaaLEv
namespace Go.Proofs.Ytfglbgnjgapehaa.LTp
open Go.RowKit Go.Proofs.Ytfglbgnjgapehaa.UBase Go.Proofs.Ytfglbgnjgapehaa.EPure Go.Proofs.Ytfglbgnjgapehaa.LPure Go.Proofs.Ytfglbgnjgapehaa.LRd Go.Proofs.Ytfglbgnjgapehaa.LSk Go.Proofs.Ytfglbgnjgapehaa.LNm Go.Proofs.Ytfglbgnjgapehaa.LUp Go.Proofs.Ytfglbgnjgapehaa.LTe Go.Proofs.Ytfglbgnjgapehaa.LSc Go.Proofs.Ytfglbgnjgapehaa.LOc Go.Proofs.Ytfglbgnjgapehaa.LEn Go.Proofs.Ytfglbgnjgapehaa.LIn Go.Proofs.Ytfglbgnjgapehaa.LMu Go.Proofs.Ytfglbgnjgapehaa.LTk Go.Proofs.Ytfglbgnjgapehaa.LLz Go.Proofs.Ytfglbgnjgapehaa.LCv Go.Proofs.Ytfglbgnjgapehaa.LEv
set_option linter.unusedVariables false

theorem pre_true {s : ByteArray} {i : Nat} {x t : List UInt8} (hi : i ≤ s.size) (h : s.data.toList.drop i = x ++ t) : pre s i x = true := by
  rw [pre_iff]
  have := congrArg List.length h
  rw [List.length_drop, len_l, List.length_append] at this
  exact ⟨by omega, t, h.symm⟩
theorem pre_no {s : ByteArray} {i : Nat} {c : UInt8} {x : List UInt8} (h : at' s i ≠ c.toNat) : pre s i (c :: x) = false := by
  cases e : pre s i (c :: x) with
  | false => rfl
  | true =>
    obtain ⟨-, t, ht⟩ := (pre_iff _ _ _).1 e
    have := at_list s i 0
    rw [Nat.add_zero, ← ht] at this
    exact absurd this h
theorem tnd_all {s : ByteArray} : ∀ (k i : Nat), s.size - i ≤ k → i ≤ s.size → (∀ j, i ≤ j → j < s.size → at' s j ≠ 60 ∧ at' s j ≠ 123) → tnd s i = s.size := by
  intro k
  induction k with
  | zero => intro i hk hi h; rw [tnd_stop (by omega)]; omega
  | succ k ih =>
    intro i hk hi h
    by_cases hl : i < s.size
    · obtain ⟨h1, h2⟩ := h i (Nat.le_refl _) hl
      rw [tnd_step hl h1 (pre_byte h2)]
      exact ih (i + 1) (by omega) hl (fun j hj => h j (by omega))
    · rw [tnd_stop (by omega)]; omega
theorem free2 (q : Bool) (l : List UInt8) : ∀ x ∈ HBase.esc q l, ¬ x.toNat = 60 ∧ ¬ x.toNat = 123 := by
  intro x hx
  obtain ⟨c, _, hc⟩ := List.mem_flatMap.1 hx
  unfold HBase.one at hc
  split at hc
  · rename_i h
    rw [List.mem_singleton] at hc
    subst hc
    rcases h with h | h
    · refine ⟨?_, ?_⟩ <;> (intro e; rw [e] at h; exact absurd h (by decide))
    · exact ⟨by omega, by omega⟩
  · unfold HBase.ent at hc
    repeat' split at hc
    all_goals (clear hx; revert x; decide)
theorem gt_mem {l : List UInt8} {m : Nat} (h : m < l.length) : ∃ x ∈ l, gt l m = x.toNat := by
  refine ⟨l[m], List.getElem_mem h, ?_⟩
  unfold gt
  rw [List.getD_eq_getElem?_getD, List.getElem?_eq_getElem h]
  rfl
theorem escB_list (q : Bool) (s : ByteArray) : (HBase.escB q s).data.toList = HBase.esc q s.data.toList := by simp [HBase.escB]
theorem one_ne (q : Bool) (c : UInt8) : 1 ≤ (HBase.one q c).length := by
  unfold HBase.one
  split
  · simp
  · rename_i h
    cases e : HBase.ent c.toNat with
    | nil => exact absurd (.inl e) h
    | cons _ _ => simp
theorem esc_ge (q : Bool) (l : List UInt8) : l.length ≤ (HBase.esc q l).length := by
  induction l with
  | nil => simp [HBase.esc]
  | cons c r ih =>
    have := one_ne q c
    rw [HBase.esc_cons, List.length_append, List.length_cons]
    omega
theorem one_le (c : UInt8) : (HBase.one false c).length ≤ (HBase.one true c).length := by
  unfold HBase.one
  by_cases h : HBase.ent c.toNat = []
  · rw [if_pos (.inl h), if_pos (.inl h)]; exact Nat.le_refl _
  · rw [if_neg (c := _ ∨ (_ ∧ true = false)) (by simp [h])]
    split
    · cases e : HBase.ent c.toNat with
      | nil => exact absurd e h
      | cons _ _ => simp
    · exact Nat.le_refl _
theorem esc_le (l : List UInt8) : (HBase.esc false l).length ≤ (HBase.esc true l).length := by
  induction l with
  | nil => simp [HBase.esc]
  | cons c r ih =>
    have := one_le c
    rw [HBase.esc_cons, HBase.esc_cons, List.length_append, List.length_append]
    omega
theorem escB_size (q : Bool) (s : ByteArray) : (HBase.escB q s).size = (HBase.esc q s.data.toList).length := by rw [← len_l, escB_list]
theorem at_esc {q : Bool} {s : ByteArray} {j : Nat} (h : j < (HBase.escB q s).size) : at' (HBase.escB q s) j ≠ 60 ∧ at' (HBase.escB q s) j ≠ 123 := by
  have e := at_list (HBase.escB q s) 0 j
  rw [Nat.zero_add, List.drop_zero, escB_list] at e
  obtain ⟨x, hx, hg⟩ := gt_mem (l := HBase.esc q s.data.toList) (m := j) (by rw [← escB_size]; exact h)
  rw [e, hg]
  exact free2 q _ x hx
theorem sub_all (s : ByteArray) : sub s 0 s.size = s := by
  unfold sub
  cases s
  simp [ByteArray.extract_zero_size]
theorem empty_of {s : ByteArray} (h : s.size = 0) : s = ⟨#[]⟩ := by
  have : s.data.toList = [] := List.eq_nil_of_length_eq_zero (by rw [len_l]; exact h)
  cases s
  simp at this
  simp [this]
theorem lxa_empty : (lxa ⟨#[]⟩).2 = (0, 0) ∧ (lxa ⟨#[]⟩).1 = [] := by
  constructor
  · decide +kernel
  · exact List.eq_nil_of_length_eq_zero (by decide +kernel)
theorem verr_empty : verr ⟨#[]⟩ = 0 := by
  unfold verr
  rw [bad_end (by decide)]
  rfl
/-- A text, escaped, is one token of it. -/
theorem tok_text (s : ByteArray) (hs : 0 < s.size) : LSn.tok (HBase.escB false s) 0 false (0, 0) = ⟨1, ⟨#[]⟩, s, 0, (HBase.escB false s).size, false, fif (decide (s.size ≤ 4096)) (0, 0) (1201, 0)⟩ := by
  have hE : 0 < (HBase.escB false s).size := by
    have := esc_ge false s.data.toList
    rw [len_l] at this
    rw [escB_size]
    omega
  obtain ⟨h1, h2⟩ := at_esc hE
  have ht : tnd (HBase.escB false s) 0 = (HBase.escB false s).size := tnd_all _ 0 (Nat.le_refl _) (Nat.zero_le _) (fun j _ hj => at_esc hj)
  unfold LSn.tok
  rw [if_neg (by decide), if_neg (by rw [pre_byte h2]; decide), if_neg (by rw [pre_no (by exact h1)]; decide), if_neg (by rw [pre_no (by exact h1)]; decide)]
  unfold LSn.tkT LTx.xL LTx.xF LTx.xT
  rw [ht, sub_all]
  obtain ⟨b1, b2, b3⟩ := HBase.back_text false s
  rw [b1, b3]
  rfl
theorem lex_text (s : ByteArray) : ((lxa (HBase.escB false s)).2.1 = 1200 ∧ verr (HBase.escB false s) ≠ 0) ∨ ((lxa (HBase.escB false s)).2.1 = 1201 ∧ (65536 < (HBase.escB false s).size ∨ 4096 < s.size)) ∨
    ((lxa (HBase.escB false s)).2 = (0, 0) ∧ s.size ≤ 4096 ∧ verr (HBase.escB false s) = 0 ∧ ((s.size = 0 ∧ (lxa (HBase.escB false s)).1 = []) ∨ (0 < s.size ∧ ∃ x, (lxa (HBase.escB false s)).1 = [x] ∧ x.k = 1 ∧ x.n = ⟨#[]⟩ ∧ x.t = s ∧ x.a = 0))) := by
  by_cases hs : s.size = 0
  · rw [empty_of hs, show HBase.escB false ⟨#[]⟩ = ⟨#[]⟩ from rfl]
    exact .inr (.inr ⟨lxa_empty.1, by decide, verr_empty, .inl ⟨rfl, lxa_empty.2⟩⟩)
  · have ht := tok_text s (by omega)
    have hE : 0 < (HBase.escB false s).size := by
      have := esc_ge false s.data.toList
      rw [len_l] at this
      rw [escB_size]
      omega
    generalize HBase.escB false s = E at *
    unfold lxa
    by_cases h1 : 65536 < E.size
    · rw [if_pos h1]; exact .inr (.inl ⟨rfl, .inl h1⟩)
    · rw [if_neg h1]
      by_cases h2 : verr E ≠ 0
      · rw [if_pos h2]; exact .inl ⟨rfl, h2⟩
      · rw [if_neg h2]
        obtain ⟨n, hn⟩ : ∃ n, E.size = n + 1 := ⟨E.size - 1, by omega⟩
        by_cases h3 : s.size ≤ 4096
        · have hx : lxs E (E.size + 1) 0 false [] = ([LSn.tok E 0 false (0, 0)], (0, 0)) := by
            rw [lxs_more (.inr hE) (by rw [ht]; simp [fif, h3]), hn, lxs_end (by rw [ht]; simp)]
            rfl
          rw [hx, if_pos rfl]
          refine .inr (.inr ⟨rfl, h3, by simpa using h2, .inr ⟨by omega, _, rfl, ?_⟩⟩)
          rw [ht]
          exact ⟨rfl, rfl, rfl, rfl⟩
        · have hx : lxs E (E.size + 1) 0 false [] = ([], (1201, 0)) := by
            rw [lxs_bad (.inr hE) (by rw [ht]; simp [fif, rf, h3]), ht]
            simp [fif, rf, h3]
          rw [hx, if_neg (by decide)]
          exact .inr (.inl ⟨rfl, .inr (by omega)⟩)
theorem ext_b {x y : ByteArray} (h : x.data.toList = y.data.toList) : x = y := by
  cases x
  cases y
  simp only [Array.toList_inj] at h
  rw [h]
/-- A tag whose one attribute is what is escaped. -/
def qt (s : ByteArray) : ByteArray := (⟨#[60, 112, 32, 97, 61, 34]⟩ ++ HBase.escB true s) ++ ⟨#[34, 47, 62]⟩
theorem qt_list (s : ByteArray) : (qt s).data.toList = 60 :: 112 :: 32 :: 97 :: 61 :: 34 :: (HBase.esc true s.data.toList ++ [34, 47, 62]) := by
  unfold qt
  simp [ByteArray.data_append, escB_list]
theorem qt_size (s : ByteArray) : (qt s).size = (HBase.escB true s).size + 9 := by
  rw [← len_l, qt_list, escB_size]
  simp
theorem qt_at (s : ByteArray) : at' (qt s) 0 = 60 ∧ at' (qt s) 1 = 112 ∧ at' (qt s) 2 = 32 ∧ at' (qt s) 3 = 97 ∧ at' (qt s) 4 = 61 ∧ at' (qt s) 5 = 34 := by
  have h : ∀ m, at' (qt s) m = gt (60 :: 112 :: 32 :: 97 :: 61 :: 34 :: (HBase.esc true s.data.toList ++ [34, 47, 62])) m := fun m => by
    have := at_list (qt s) 0 m
    rwa [Nat.zero_add, List.drop_zero, qt_list] at this
  rw [h, h, h, h, h, h]
  exact ⟨rfl, rfl, rfl, rfl, rfl, rfl⟩
theorem qt_six (s : ByteArray) : (qt s).data.toList.drop 6 = HBase.esc true s.data.toList ++ [34, 47, 62] := by rw [qt_list]; rfl
theorem qt_end (s : ByteArray) : (qt s).data.toList.drop (6 + (HBase.escB true s).size) = [34, 47, 62] := by
  rw [← List.drop_drop, qt_six, escB_size, List.drop_left]
theorem skp_to {p : Nat → Bool} {s : ByteArray} {i : Nat} (hi : i + 1 < s.size) (h1 : p (at' s i) = true) (h2 : p (at' s (i + 1)) = false) : skp p s i = i + 1 := by
  rw [skp_step (by omega) h1, skp_stop (by rw [h2]; simp)]
theorem sub_one {s : ByteArray} {i : Nat} {c : UInt8} {t : List UInt8} (hi : i + 1 ≤ s.size) (h : s.data.toList.drop i = c :: t) : sub s i (i + 1) = ⟨#[c]⟩ := by
  have e := sub_list (s := s) (i := i) hi
  rw [h, Nat.add_sub_cancel_left] at e
  generalize sub s i (i + 1) = y at e
  cases y
  rename_i d
  cases d
  simp at e
  simp [e]
theorem tok_q1 (s : ByteArray) : LSn.tok (qt s) 0 false (0, 0) = ⟨3, ⟨#[112]⟩, ⟨#[]⟩, 0, 2, true, (0, 0)⟩ := by
  obtain ⟨h0, h1, h2, h3, h4, h5⟩ := qt_at s
  have hz := qt_size s
  have hk : skp tgb (qt s) 1 = 2 := skp_to (by omega) (by rw [h1]; decide) (by rw [h2]; decide)
  have hp : pre (qt s) 0 [60] = true := pre_true (Nat.zero_le _) (t := _) (by rw [qt_list]; rfl)
  have hn : pre (qt s) 0 [60, 47] = false := by
    cases e : pre (qt s) 0 [60, 47] with
    | false => rfl
    | true =>
      obtain ⟨-, t, ht⟩ := (pre_iff _ _ _).1 e
      rw [List.drop_zero, qt_list] at ht
      simp at ht
  have hs : sub (qt s) 1 2 = ⟨#[112]⟩ := sub_one (by omega) (t := _) (by rw [qt_list]; rfl)
  unfold LSn.tok
  rw [if_neg (by decide), if_neg (by rw [pre_no (by rw [h0]; decide)]; decide), if_neg (by rw [hn]; decide), if_pos hp]
  unfold LSn.tkO
  simp only [Nat.zero_add, nT, nE, nF, hk, hs]
  rw [show UBase.word ⟨#[112]⟩ 45 = true from by decide]
  rfl
theorem tok_q2 (s : ByteArray) : LSn.tok (qt s) 2 true (0, 0) = ⟨4, ⟨#[97]⟩, s, 3, 7 + (HBase.escB true s).size, true, fif (decide (s.size ≤ 4096)) (0, 0) (1201, 5)⟩ := by
  obtain ⟨h0, h1, h2, h3, h4, h5⟩ := qt_at s
  have hz := qt_size s
  have hk : skp isb (qt s) 2 = 3 := skp_to (by omega) (by rw [h2]; decide) (by rw [h3]; decide)
  have ht : skp tgb (qt s) 3 = 4 := skp_to (by omega) (by rw [h3]; decide) (by rw [h4]; decide)
  have hs : sub (qt s) 3 4 = ⟨#[97]⟩ := sub_one (by omega) (t := _) (by rw [qt_list]; rfl)
  have a1 : LAt.a1 (qt s) 3 = 3 := by unfold LAt.a1 mpl; rw [if_neg (by rw [pre_no (by rw [h3]; decide)]; decide)]
  have a2 : LAt.a2 (qt s) 3 = 4 := by unfold LAt.a2 nE; rw [a1, ht]
  have p3 : pre (qt s) 4 [61] = true := pre_true (by omega) (t := _) (by rw [qt_list]; rfl)
  have p4 : pre (qt s) 5 [34] = true := pre_true (by omega) (t := _) (by rw [qt_list]; rfl)
  have a3 : LAt.a3 (qt s) 3 = 5 := by unfold LAt.a3; rw [a2, mpl_t p3]; rfl
  have a4 : LAt.a4 (qt s) 3 = 6 := by unfold LAt.a4; rw [a3, mpl_t p4]; rfl
  have hux : ux (qt s) 6 [34] = (HBase.escB true s).size := by
    have hhit : pre (qt s) (6 + (HBase.escB true s).size) [34] = true := pre_true (by omega) (t := [47, 62]) (qt_end s)
    have hno : ∀ j, 6 ≤ j → j < 6 + (HBase.escB true s).size → pre (qt s) j [34] = false := fun j h6 hj => by
      refine pre_no ?_
      have e := at_list (qt s) 6 (j - 6)
      rw [show 6 + (j - 6) = j by omega, qt_six] at e
      have hl : j - 6 < (HBase.esc true s.data.toList).length := by rw [← escB_size]; omega
      have e2 : gt (HBase.esc true s.data.toList ++ [34, 47, 62]) (j - 6) = gt (HBase.esc true s.data.toList) (j - 6) := by
        unfold gt
        rw [List.getD_eq_getElem?_getD, List.getD_eq_getElem?_getD, List.getElem?_append_left hl]
      obtain ⟨x, hx, hg⟩ := gt_mem hl
      rw [e, e2, hg]
      exact (HBase.free _ x hx).2.2.1
    rcases ux_spec (s := qt s) (i := 6) (x := [34]) (by omega) (by simp) with ⟨-, h⟩ | ⟨k, hk, hp, hn⟩
    · rw [h _ (by omega)] at hhit; cases hhit
    · rw [hk]
      rcases Nat.lt_trichotomy k (HBase.escB true s).size with h | h | h
      · rw [hno (6 + k) (by omega) (by omega)] at hp; cases hp
      · rw [h]
      · rw [hn _ (by omega) (by omega : 6 + (HBase.escB true s).size < 6 + k)] at hhit; cases hhit
  have a5 : LAt.a5 (qt s) 3 = 7 + (HBase.escB true s).size := by
    unfold LAt.a5 upl
    rw [a4, hux, if_pos (by omega)]
    simp
    omega
  have aw : LAt.aW (qt s) 3 = HBase.escB true s := by
    unfold LAt.aW utx
    rw [a4, hux, if_pos (by omega), Int.toNat_natCast]
    refine ext_b ?_
    rw [sub_list (by omega), qt_six, Nat.add_sub_cancel_left, escB_size, List.take_left' rfl, escB_list]
  obtain ⟨b1, b2, b3⟩ := HBase.back_text true s
  have at' : LAt.aT (qt s) 3 = s := by unfold LAt.aT; rw [aw, b1]
  have n58 : ¬ pre (qt s) 3 [58] = true := by rw [pre_no (by rw [h3]; decide)]; decide
  unfold LSn.tok
  rw [if_pos rfl, hk, if_neg (by rw [pre_no (by rw [h3]; decide)]; decide), if_neg (by rw [pre_no (by rw [h3]; decide)]; decide), if_pos (by decide)]
  unfold LSn.tkA LAt.f7 LAt.f6 LAt.f5 LAt.f4 LAt.f3 LAt.f2 LAt.aK
  rw [if_neg n58, if_neg n58, a5, at', aw, b3, a4, a3, a2, a1, p3, p4, hux]
  simp only [nT, nF, ht, hs]
  rw [show UBase.word ⟨#[97]⟩ 45 = true from by decide, decide_eq_true (by omega : (0 : Int) ≤ ((HBase.escB true s).size : Int))]
  rfl
theorem tok_q3 (s : ByteArray) : LSn.tok (qt s) (7 + (HBase.escB true s).size) true (0, 0) = ⟨7, ⟨#[]⟩, ⟨#[]⟩, 7 + (HBase.escB true s).size, (qt s).size, false, (0, 0)⟩ := by
  have hz := qt_size s
  have hd : (qt s).data.toList.drop (7 + (HBase.escB true s).size) = [47, 62] := by
    have := congrArg (List.drop 1) (qt_end s)
    rw [List.drop_drop, show 6 + (HBase.escB true s).size + 1 = 7 + (HBase.escB true s).size by omega] at this
    exact this
  have hd2 : (qt s).data.toList.drop (7 + (HBase.escB true s).size + 1) = [62] := by
    rw [← List.drop_drop, hd]; rfl
  have ha : at' (qt s) (7 + (HBase.escB true s).size) = 47 := by
    have := at_list (qt s) (7 + (HBase.escB true s).size) 0
    rw [hd] at this
    exact this
  have hk : skp isb (qt s) (7 + (HBase.escB true s).size) = 7 + (HBase.escB true s).size := skp_stop (fun h => by rw [ha] at h; exact absurd h.2 (by decide))
  have p1 : pre (qt s) (7 + (HBase.escB true s).size) [47] = true := pre_true (by omega) (t := [62]) hd
  have p2 : pre (qt s) (7 + (HBase.escB true s).size + 1) [62] = true := pre_true (by omega) (t := []) hd2
  unfold LSn.tok
  rw [if_pos rfl, hk, if_neg (by rw [pre_no (by rw [ha]; decide)]; decide), if_pos p1]
  unfold LSn.tkE eK
  rw [if_pos p1, mpl_t p1, show ([47] : List UInt8).length = 1 from rfl, p2, mpl_t p2]
  simp only [List.length_cons, List.length_nil]
  rw [show 7 + (HBase.escB true s).size + 1 + (0 + 1) = (qt s).size by omega]
  rfl
theorem lex_attr (s : ByteArray) : ((lxa (qt s)).2.1 = 1200 ∧ verr (qt s) ≠ 0) ∨ ((lxa (qt s)).2.1 = 1201 ∧ (65536 < (qt s).size ∨ 4096 < s.size)) ∨
    ((lxa (qt s)).2.1 = 0 ∧ s.size ≤ 4096 ∧ (qt s).size ≤ 65536 ∧ ∃ x y z, (lxa (qt s)).1 = [x, y, z] ∧ y.k = 4 ∧ y.t = s) := by
  have hz := qt_size s
  have t1 := tok_q1 s
  have t2 := tok_q2 s
  have t3 := tok_q3 s
  generalize qt s = Q at *
  unfold lxa
  by_cases h1 : 65536 < Q.size
  · rw [if_pos h1]; exact .inr (.inl ⟨rfl, .inl h1⟩)
  · rw [if_neg h1]
    by_cases h2 : verr Q ≠ 0
    · rw [if_pos h2]; exact .inl ⟨rfl, h2⟩
    · rw [if_neg h2]
      obtain ⟨n, hn⟩ : ∃ n, Q.size + 1 = n + 1 + 1 + 1 + 1 := ⟨Q.size - 3, by omega⟩
      have s1 : lxs Q (Q.size + 1) 0 false [] = lxs Q (n + 1 + 1 + 1) 2 true [LSn.tok Q 0 false (0, 0)] := by
        rw [hn, lxs_more (.inr (by omega)) (by rw [t1]), t1]
        rfl
      by_cases h3 : s.size ≤ 4096
      · have hx : lxs Q (Q.size + 1) 0 false [] = ([LSn.tok Q 0 false (0, 0), LSn.tok Q 2 true (0, 0), LSn.tok Q (7 + (HBase.escB true s).size) true (0, 0)], (0, 0)) := by
          rw [s1, lxs_more (.inl rfl) (by rw [t2]; simp [fif, h3])]
          rw [show (LSn.tok Q 2 true (0, 0)).i = 7 + (HBase.escB true s).size from by rw [t2], show (LSn.tok Q 2 true (0, 0)).b = true from by rw [t2]]
          rw [lxs_more (.inl rfl) (by rw [t3])]
          rw [lxs_end (by rw [t3]; simp)]
          rfl
        rw [hx, if_pos rfl]
        refine .inr (.inr ⟨rfl, h3, by omega, _, _, _, rfl, ?_⟩)
        rw [t2]
        exact ⟨rfl, rfl⟩
      · have hx : (lxs Q (Q.size + 1) 0 false []).2 = (1201, 5) := by
          rw [s1, lxs_bad (.inl rfl) (by rw [t2]; simp [fif, rf, h3]), t2]
          simp [fif, rf, h3]
        rw [hx, if_neg (by decide)]
        exact .inr (.inl ⟨rfl, .inr (by omega)⟩)
theorem verr_iff (s : ByteArray) : verr s = 0 ↔ bad s 0 = none := by
  unfold verr
  split <;> simp_all
theorem asc_of (T : List UInt8) (h : T.all (fun x => decide (x.toNat < 128)) = true) : Asc T := fun x hx => of_decide_eq_true (List.all_eq_true.1 h x hx)
theorem valid_text (s : ByteArray) : verr (HBase.escB false s) = 0 ↔ verr s = 0 := by
  rw [verr_iff, verr_iff]
  exact bad_esc false s _ [] (asc_of _ rfl) _ 0 0 (Nat.le_refl _) (by rw [List.drop_zero, List.drop_zero, escB_list, List.append_nil])
theorem valid_attr (s : ByteArray) : verr (qt s) = 0 ↔ verr s = 0 := by
  rw [verr_iff, verr_iff]
  have h := bad_asc (qt s) [60, 112, 32, 97, 61, 34] 0 _ (by rw [List.drop_zero, qt_list]; rfl) (asc_of _ rfl)
  rw [h]
  exact bad_esc true s _ [34, 47, 62] (asc_of _ rfl) _ 0 6 (Nat.le_refl _) (by rw [List.drop_zero]; exact qt_six s)
end Go.Proofs.Ytfglbgnjgapehaa.LTp

/- Templates: contracts of has and begins. -/
import Derived.Test.YtfglbgnjgapehaaLCv
namespace Go.Proofs.Ytfglbgnjgapehaa.LHs
open Go.RowKit Go.Proofs.Ytfglbgnjgapehaa.UBase Go.Proofs.Ytfglbgnjgapehaa.EPure Go.Proofs.Ytfglbgnjgapehaa.LPure Go.Proofs.Ytfglbgnjgapehaa.LSc Go.Proofs.Ytfglbgnjgapehaa.LIn Go.Proofs.Ytfglbgnjgapehaa.LMu Go.Proofs.Ytfglbgnjgapehaa.LTk Go.Proofs.Ytfglbgnjgapehaa.LLy Go.Proofs.Ytfglbgnjgapehaa.LLz Go.Proofs.Ytfglbgnjgapehaa.LCv
set_option linter.unusedVariables false

theorem ext_pre {s x : ByteArray} {a : Nat} (h : a + x.size ≤ s.size) : ((s.extract a (a + x.size)).toList == x.toList) = pre s a x.data.toList := by
  rw [Bool.eq_iff_iff, beq_iff_eq, pre_iff, len_l, List.prefix_iff_eq_take]
  have e := sub_list (s := s) (i := a) h
  unfold sub at e
  rw [ByteArray.toList_eq, ByteArray.toList_eq, e, len_l]
  simp only [Nat.add_sub_cancel_left]
  exact ⟨fun q => ⟨h, q.symm⟩, fun q => q.2.symm⟩
theorem has_c (s : ByteArray) (a : Nat) (x : ByteArray) (ha : a ≤ s.size) (hs : s.size ≤ 65536) (hx : x.size ≤ 200000) (w : World) :
    Calls Try.prog 24 #[.string s, .int .i64 a, .string x] w fun e w' => e = .returned (.bool (pre s a x.data.toList)) ∧ w' = w := by
  by_cases h : a + x.size ≤ s.size
  · rw [← ext_pre h]
    have d : decide ((x.size : Int) ≤ (s.size : Int) - (a : Int)) = true := decide_eq_true (by omega)
    have b1 : (0 : Int) ≤ (a : Int) := by omega
    have b2 : (a : Int) ≤ (a : Int) + (x.size : Int) := by omega
    have b3 : (a : Int) + (x.size : Int) ≤ (s.size : Int) := by omega
    go_enter Try.func24, Try.ntmps24
    go_wp2_with fail
    go_ret
    exact ⟨rfl, rfl⟩
  · have e : pre s a x.data.toList = false := by
      rw [pre_occ, len_l, decide_eq_false h, Bool.false_and]
    rw [e]
    have d : decide ((x.size : Int) ≤ (s.size : Int) - (a : Int)) = false := decide_eq_false (by omega)
    go_enter Try.func24, Try.ntmps24
    go_wp2_with fail
    go_ret
    exact ⟨rfl, rfl⟩
theorem cat_list (x y : ByteArray) : (x ++ y).data.toList = x.data.toList ++ y.data.toList := by simp [ByteArray.data_append]
theorem cat_size (x y : ByteArray) : (x ++ y).size = x.size + y.size := ByteArray.size_append
theorem pre_size {s : ByteArray} {i : Nat} {x : List UInt8} (h : pre s i x = true) : x.length ≤ s.size := by
  have := ((pre_iff _ _ _).1 h).1
  omega
theorem begins_2 (s n t : ByteArray) (a : Nat) (ha : a < s.size) (hs : s.size ≤ 65536) (h : pre s a ([123, 123] ++ t.data.toList ++ [125, 125]) = true) (w : World) :
    Calls Try.prog 13 #[.string s, .agg #[.int .i64 2, .string n, .string t, .int .i64 a]] w fun e w' => e = .returned (.bool true) ∧ Below w.heap.size w w' := by
  have hz := pre_size h
  simp only [List.length_append, List.length_cons, List.length_nil, len_l] at hz
  have hn : t.size ≤ 65536 := by omega
  have hn2 : ((⟨#[123, 123]⟩ : ByteArray) ++ t).size ≤ 65600 := by rw [cat_size]; have : (⟨#[123, 123]⟩ : ByteArray).size = 2 := rfl; omega
  have c := fun W => has_c s a (⟨#[123, 123]⟩ ++ t ++ ⟨#[125, 125]⟩) (by omega) hs (by simp only [cat_size]; simp only [ByteArray.size, List.size_toArray, List.length_cons, List.length_nil] at *; omega) W
  have h2 : pre s a (⟨#[123, 123]⟩ ++ t ++ ⟨#[125, 125]⟩).data.toList = true := by
    simp only [cat_list]; exact h
  simp only [h2] at c
  go_enter Try.func13, Try.ntmps13
  go_wp2_with fail
  refine (c _).mono ?_
  rintro e w' ⟨rfl, rfl⟩
  go_wp2_with fail
  go_ret
  exact ⟨rfl, (Below.refl _ w).alloc (Nat.le_refl _) _⟩
theorem begins_3 (s n t : ByteArray) (a : Nat) (ha : a < s.size) (hs : s.size ≤ 65536) (h : pre s a ([60] ++ n.data.toList) = true) (w : World) :
    Calls Try.prog 13 #[.string s, .agg #[.int .i64 3, .string n, .string t, .int .i64 a]] w fun e w' => e = .returned (.bool true) ∧ Below w.heap.size w w' := by
  have hz := pre_size h
  simp only [List.length_append, List.length_cons, List.length_nil, len_l] at hz
  have hn : n.size ≤ 65536 := by omega
  have c := fun W => has_c s a (⟨#[60]⟩ ++ n) (by omega) hs (by simp only [cat_size]; simp only [ByteArray.size, List.size_toArray, List.length_cons, List.length_nil] at *; omega) W
  have h2 : pre s a (⟨#[60]⟩ ++ n).data.toList = true := by
    simp only [cat_list]; exact h
  simp only [h2] at c
  go_enter Try.func13, Try.ntmps13
  go_wp2_with fail
  refine (c _).mono ?_
  rintro e w' ⟨rfl, rfl⟩
  go_wp2_with fail
  go_ret
  exact ⟨rfl, (Below.refl _ w).alloc (Nat.le_refl _) _⟩
theorem begins_4 (s n t : ByteArray) (a : Nat) (ha : a < s.size) (hs : s.size ≤ 65536) (h : pre s a (n.data.toList ++ [61, 34]) = true) (w : World) :
    Calls Try.prog 13 #[.string s, .agg #[.int .i64 4, .string n, .string t, .int .i64 a]] w fun e w' => e = .returned (.bool true) ∧ Below w.heap.size w w' := by
  have hz := pre_size h
  simp only [List.length_append, List.length_cons, List.length_nil, len_l] at hz
  have hn : n.size ≤ 65536 := by omega
  have c := fun W => has_c s a (n ++ ⟨#[61, 34]⟩) (by omega) hs (by simp only [cat_size]; simp only [ByteArray.size, List.size_toArray, List.length_cons, List.length_nil] at *; omega) W
  have h2 : pre s a (n ++ ⟨#[61, 34]⟩).data.toList = true := by
    simp only [cat_list]; exact h
  simp only [h2] at c
  go_enter Try.func13, Try.ntmps13
  go_wp2_with fail
  refine (c _).mono ?_
  rintro e w' ⟨rfl, rfl⟩
  go_wp2_with fail
  go_ret
  exact ⟨rfl, (Below.refl _ w).alloc (Nat.le_refl _) _⟩
theorem begins_5 (s n t : ByteArray) (a : Nat) (ha : a < s.size) (hs : s.size ≤ 65536) (h : pre s a ([58] ++ n.data.toList ++ [61, 34]) = true) (w : World) :
    Calls Try.prog 13 #[.string s, .agg #[.int .i64 5, .string n, .string t, .int .i64 a]] w fun e w' => e = .returned (.bool true) ∧ Below w.heap.size w w' := by
  have hz := pre_size h
  simp only [List.length_append, List.length_cons, List.length_nil, len_l] at hz
  have hn : n.size ≤ 65536 := by omega
  have hn2 : ((⟨#[58]⟩ : ByteArray) ++ n).size ≤ 65600 := by rw [cat_size]; have : (⟨#[58]⟩ : ByteArray).size = 1 := rfl; omega
  have c := fun W => has_c s a (⟨#[58]⟩ ++ n ++ ⟨#[61, 34]⟩) (by omega) hs (by simp only [cat_size]; simp only [ByteArray.size, List.size_toArray, List.length_cons, List.length_nil] at *; omega) W
  have h2 : pre s a (⟨#[58]⟩ ++ n ++ ⟨#[61, 34]⟩).data.toList = true := by
    simp only [cat_list]; exact h
  simp only [h2] at c
  go_enter Try.func13, Try.ntmps13
  go_wp2_with fail
  refine (c _).mono ?_
  rintro e w' ⟨rfl, rfl⟩
  go_wp2_with fail
  go_ret
  exact ⟨rfl, (Below.refl _ w).alloc (Nat.le_refl _) _⟩
theorem begins_6 (s n t : ByteArray) (a : Nat) (ha : a < s.size) (hs : s.size ≤ 65536) (h : pre s a ([62]) = true) (w : World) :
    Calls Try.prog 13 #[.string s, .agg #[.int .i64 6, .string n, .string t, .int .i64 a]] w fun e w' => e = .returned (.bool true) ∧ Below w.heap.size w w' := by
  have hz := pre_size h
  have c := fun W => has_c s a (⟨#[62]⟩) (by omega) hs (by simp only [ByteArray.size, List.size_toArray, List.length_cons, List.length_nil] at *; omega) W
  have h2 : pre s a (⟨#[62]⟩ : ByteArray).data.toList = true := by
    exact h
  simp only [h2] at c
  go_enter Try.func13, Try.ntmps13
  go_wp2_with fail
  refine (c _).mono ?_
  rintro e w' ⟨rfl, rfl⟩
  go_wp2_with fail
  go_ret
  exact ⟨rfl, (Below.refl _ w).alloc (Nat.le_refl _) _⟩
theorem begins_7 (s n t : ByteArray) (a : Nat) (ha : a < s.size) (hs : s.size ≤ 65536) (h : pre s a ([47, 62]) = true) (w : World) :
    Calls Try.prog 13 #[.string s, .agg #[.int .i64 7, .string n, .string t, .int .i64 a]] w fun e w' => e = .returned (.bool true) ∧ Below w.heap.size w w' := by
  have hz := pre_size h
  have c := fun W => has_c s a (⟨#[47, 62]⟩) (by omega) hs (by simp only [ByteArray.size, List.size_toArray, List.length_cons, List.length_nil] at *; omega) W
  have h2 : pre s a (⟨#[47, 62]⟩ : ByteArray).data.toList = true := by
    exact h
  simp only [h2] at c
  go_enter Try.func13, Try.ntmps13
  go_wp2_with fail
  refine (c _).mono ?_
  rintro e w' ⟨rfl, rfl⟩
  go_wp2_with fail
  go_ret
  exact ⟨rfl, (Below.refl _ w).alloc (Nat.le_refl _) _⟩
theorem begins_8 (s n t : ByteArray) (a : Nat) (ha : a < s.size) (hs : s.size ≤ 65536) (h : pre s a ([60, 47] ++ n.data.toList) = true) (w : World) :
    Calls Try.prog 13 #[.string s, .agg #[.int .i64 8, .string n, .string t, .int .i64 a]] w fun e w' => e = .returned (.bool true) ∧ Below w.heap.size w w' := by
  have hz := pre_size h
  simp only [List.length_append, List.length_cons, List.length_nil, len_l] at hz
  have hn : n.size ≤ 65536 := by omega
  have c := fun W => has_c s a (⟨#[60, 47]⟩ ++ n) (by omega) hs (by simp only [cat_size]; simp only [ByteArray.size, List.size_toArray, List.length_cons, List.length_nil] at *; omega) W
  have h2 : pre s a (⟨#[60, 47]⟩ ++ n).data.toList = true := by
    simp only [cat_list]; exact h
  simp only [h2] at c
  go_enter Try.func13, Try.ntmps13
  go_wp2_with fail
  refine (c _).mono ?_
  rintro e w' ⟨rfl, rfl⟩
  go_wp2_with fail
  go_ret
  exact ⟨rfl, (Below.refl _ w).alloc (Nat.le_refl _) _⟩
theorem begins_1 (s n t : ByteArray) (a : Nat) (ha : a < s.size) (hs : s.size ≤ 65536) (h6 : at' s a ≠ 60) (h : pre s a [123, 123] = false) (ht : t ≠ ⟨#[]⟩) (w : World) :
    Calls Try.prog 13 #[.string s, .agg #[.int .i64 1, .string n, .string t, .int .i64 a]] w fun e w' => e = .returned (.bool true) ∧ Below w.heap.size w w' := by
  have c := fun W => has_c s a ⟨#[123, 123]⟩ (by omega) hs (by decide) W
  have h2 : pre s a (⟨#[123, 123]⟩ : ByteArray).data.toList = false := h
  simp only [h2] at c
  obtain ⟨y, hy⟩ : ∃ y, (s[a]'ha).toNat = y := ⟨_, rfl⟩
  have hya : at' s a = y := by rw [← hy]; exact at_get s a ha
  rw [hya] at h6
  have d : ((y : Int) != 60) = true := by simp; omega
  have te : t.toList.isEmpty = false := by
    rw [ByteArray.toList_eq]
    cases e : t.data.toList with
    | nil => exact absurd (by cases t; simp at e; simp [e]) ht
    | cons _ _ => rfl
  clear hya h6 h h2 ht
  go_enter Try.func13, Try.ntmps13
  go_wp2_with fail
  refine (c _).mono ?_
  rintro e w' ⟨rfl, rfl⟩
  go_wp2_with fail
  go_ret
  exact ⟨rfl, (Below.refl _ w).alloc (Nat.le_refl _) _⟩
theorem begins_c {s : ByteArray} {x : Tz} (hB : Bg s x) (ha : x.a < s.size) (hs : s.size ≤ 65536) (w : World) :
    Calls Try.prog 13 #[.string s, .agg #[.int .i64 x.k, .string x.n, .string x.t, .int .i64 x.a]] w fun e w' => e = .returned (.bool true) ∧ Below w.heap.size w w' := by
  obtain ⟨k, n, t, a, i, b, f⟩ := x
  unfold Bg at hB
  dsimp only at *
  rcases hB with ⟨rfl, h6, h, ht⟩ | ⟨rfl, h⟩ | ⟨rfl, h⟩ | ⟨rfl, h⟩ | ⟨rfl, h⟩ | ⟨rfl, h⟩ | ⟨rfl, h⟩ | ⟨rfl, h⟩
  · exact begins_1 s n t a ha hs h6 h ht w
  · exact begins_2 s n t a ha hs h w
  · exact begins_3 s n t a ha hs h w
  · exact begins_4 s n t a ha hs h w
  · exact begins_5 s n t a ha hs h w
  · exact begins_6 s n t a ha hs h w
  · exact begins_7 s n t a ha hs h w
  · exact begins_8 s n t a ha hs h w
end Go.Proofs.Ytfglbgnjgapehaa.LHs

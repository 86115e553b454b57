/- Contracts of Text and Attr, the program's and the document's. -/
import Derived.Test.YtfkgcignlhmodaaHRow
import Derived.Test.YtfkgcignlhmodaaHBuild
import Derived.Test.YtfkgcignlhmodaaShelf
namespace Go.Proofs.Ytfkgcignlhmodaa.HEsc
open Go.ChangeShapes Go.WideShapes Go.ChangeAt Go.RowKit Go.Proofs.Ytfkgcignlhmodaa.HBase Go.Proofs.Ytfkgcignlhmodaa.HSmall Go.Proofs.Ytfkgcignlhmodaa.HRow
set_option linter.unusedVariables false

theorem one_self {c : UInt8} {q : Bool} (h : entB c.toNat = ⟨#[]⟩ ∨ (c.toNat = 34 ∧ q = false)) : one q c = [c] := by
  unfold one
  rw [if_pos]
  rcases h with h | h
  · exact Or.inl (by simpa [entB] using h)
  · exact Or.inr h
theorem one_text {c : UInt8} {q : Bool} (h : ¬ entB c.toNat = ⟨#[]⟩) (h2 : ¬ (c.toNat = 34 ∧ q = false)) : one q c = (entB c.toNat).data.toList := by
  unfold one
  rw [if_neg]
  · rfl
  · rintro (h3 | h3)
    · exact h (by rw [entB, h3])
    · exact h2 h3
theorem ent34 : ¬ entB 34 = ⟨#[]⟩ := by decide
set_option maxRecDepth 20000 in
set_option maxHeartbeats 800000 in
theorem esc_c (s : ByteArray) (q : Bool) (hs : 8 * s.size ≤ 140737488355328) (w : World) :
    Calls Try.prog 25 #[.string s, .bool q] w fun r w' => r = .returned (.string (escB q s)) ∧ Below w.heap.size w w' := by
  go_enter Try.func25, Try.ntmps25
  go_wp2
  go_loopw [10] (fun i wr => ∃ n : Nat, n ≤ s.size ∧ i = .int .i64 n ∧ Below w.heap.size w wr ∧ Lib.IsBuilder 65 5 w.heap.size w.heap.size (Lib.byteCells (esc q (s.data.toList.take n))) wr) (fun i _ => s.size - (intOf i).toNat)
  case atStart => exact ⟨0, by omega, rfl, (Below.refl _ w).alloc (Nat.le_refl _) _, Lib.fresh_isBuilder 65 5 w⟩
  case round =>
    obtain ⟨n, hn, rfl, hb, hI⟩ := hrel
    have hsz := hb.size
    obtain ⟨L, hL⟩ : ∃ L, esc q (s.data.toList.take n) = L := ⟨_, rfl⟩
    have HL : Hid (esc q (s.data.toList.take n) = L) := hL
    have hlen : (Lib.byteCells L).length ≤ 8 * n := by rw [Lib.byteCells_length, ← hL]; have := esc_len q (s.data.toList.take n); rw [List.length_take] at this; omega
    rw [hL] at hI
    clear hL
    by_cases hlt : n < s.size
    · obtain ⟨c, hc⟩ : ∃ c : UInt8, s[n] = c := ⟨_, rfl⟩
      obtain ⟨X, hX⟩ : ∃ X, entB c.toNat = X := ⟨_, rfl⟩
      have more : ∀ {w2 : World} {M : List Value}, Lib.IsBuilder 65 5 w.heap.size w.heap.size (Lib.byteCells L ++ M) w2 → M = Lib.byteCells (one q c) → Lib.IsBuilder 65 5 w.heap.size w.heap.size (Lib.byteCells (esc q (s.data.toList.take (n + 1)))) w2 := by
        intro w2 M h e
        rw [esc_more q s.data.toList n (by simpa using hlt), HL.out, Lib.byteCells_append]
        rw [e, ← hc] at h
        exact h
      by_cases he : X = ⟨#[]⟩
      · subst he
        have H1 : Hid (one q c = [c]) := one_self (Or.inl hX)
        have H2 : Hid (∀ {w2 : World} {M : List Value}, Lib.IsBuilder 65 5 w.heap.size w.heap.size (Lib.byteCells L ++ M) w2 → M = Lib.byteCells (one q c) → Lib.IsBuilder 65 5 w.heap.size w.heap.size (Lib.byteCells (esc q (s.data.toList.take (n + 1)))) w2) := more
        clear more
        go_wp2_with (first
          | (go_at_call 35; refine (entity_c _ c.toNat rfl _).mono ?_; rintro e w' ⟨rfl, rfl⟩)
          | (go_at_call 36; refine (HBuild.byte_c _ _ _ c.toNat _ hI (by omega) (by omega)).mono ?_))
        rintro e w2 ⟨rfl, hI2, hb2⟩
        have hI3 := H2.out hI2 (by rw [H1.out]; rfl)
        have hb3 := hb.trans hb2
        clear hI hI2 hb hb2 H2 HL
        go_wp2
        go_roundw
        case rel => exact ⟨n + 1, by omega, by go_num, hb3, hI3⟩
        case measure => simp only [intOf]; omega
      · have he' : X.toList.isEmpty = false := full he
        have H2 : Hid (∀ {w2 : World} {M : List Value}, Lib.IsBuilder 65 5 w.heap.size w.heap.size (Lib.byteCells L ++ M) w2 → M = Lib.byteCells (one q c) → Lib.IsBuilder 65 5 w.heap.size w.heap.size (Lib.byteCells (esc q (s.data.toList.take (n + 1)))) w2) := more
        have hX8 : X.size ≤ 8 := by rw [← hX, entB_size]; exact ent_len _
        clear more
        by_cases h34 : c.toNat = 34 ∧ q = false
        · obtain ⟨h34, rfl⟩ := h34
          have H1 : Hid (one false c = [c]) := one_self (Or.inr ⟨h34, rfl⟩)
          have h34' : ((c.toNat : Int) == 34) = true := by simp; omega
          clear h34
          go_wp2_with (first
            | (go_at_call 35; refine (entity_c _ c.toNat rfl _).mono ?_; rintro e w' ⟨rfl, rfl⟩)
            | (go_at_call 36; refine (HBuild.byte_c _ _ _ c.toNat _ hI (by omega) (by omega)).mono ?_))
          rintro e w2 ⟨rfl, hI2, hb2⟩
          have hI3 := H2.out hI2 (by rw [H1.out]; rfl)
          have hb3 := hb.trans hb2
          clear hI hI2 hb hb2 H2 HL
          go_wp2
          go_roundw
          case rel => exact ⟨n + 1, by omega, by go_num, hb3, hI3⟩
          case measure => simp only [intOf]; omega
        · have H1 : Hid (one q c = X.data.toList) := by
            have := one_text (q := q) (by rw [hX]; exact he) h34
            rw [hX] at this
            exact this
          by_cases h3 : c.toNat = 34
          · obtain rfl : q = true := by cases q with
              | true => rfl
              | false => exact absurd ⟨h3, rfl⟩ h34
            have h34' : ((c.toNat : Int) == 34) = true := by simp; omega
            clear h34 h3
            go_wp2_with (first
              | (go_at_call 35; refine (entity_c _ c.toNat rfl _).mono ?_; rintro e w' ⟨rfl, rfl⟩)
              | (go_at_call 37; refine (HBuild.text_c _ _ _ X _ hI (by omega) (by omega)).mono ?_))
            rintro e w2 ⟨rfl, hI2, hb2⟩
            have hI3 := H2.out hI2 (by rw [H1.out]; rfl)
            have hb3 := hb.trans hb2
            clear hI hI2 hb hb2 H2 HL
            go_wp2
            go_roundw
            case rel => exact ⟨n + 1, by omega, by go_num, hb3, hI3⟩
            case measure => simp only [intOf]; omega
          · have h34' : ((c.toNat : Int) == 34) = false := by simp; omega
            clear h34 h3
            go_wp2_with (first
              | (go_at_call 35; refine (entity_c _ c.toNat rfl _).mono ?_; rintro e w' ⟨rfl, rfl⟩)
              | (go_at_call 37; refine (HBuild.text_c _ _ _ X _ hI (by omega) (by omega)).mono ?_))
            rintro e w2 ⟨rfl, hI2, hb2⟩
            have hI3 := H2.out hI2 (by rw [H1.out]; rfl)
            have hb3 := hb.trans hb2
            clear hI hI2 hb hb2 H2 HL
            go_wp2
            go_roundw
            case rel => exact ⟨n + 1, by omega, by go_num, hb3, hI3⟩
            case measure => simp only [intOf]; omega
    · obtain rfl : n = s.size := by omega
      have HE : Hid ((⟨L.toArray⟩ : ByteArray) = escB q s) := by
        show _ = _
        rw [← HL.out, List.take_of_length_le (by simp)]
        rfl
      clear HL
      go_wp2_with (first
        | (go_at_call 38; refine (Try.Builder_String_any _ _ L _ hI (by omega)).mono ?_))
      rintro e w2 ⟨rfl, hb2⟩
      go_wp2
      go_ret
      rw [HE.out]
      exact ⟨rfl, hb.trans hb2⟩
theorem text_c (s : ByteArray) (hs : 8 * s.size ≤ 140737488355328) (w : World) :
    Calls Try.prog 14 #[.string s] w fun r w' => r = .returned (.string (escB false s)) ∧ Below w.heap.size w w' := by
  go_enter Try.func14, Try.ntmps14
  go_wp2_with (first | (go_at_call 25; refine (esc_c _ _ hs _).mono ?_; rintro e w2 ⟨rfl, hb2⟩))
  go_ret
  exact ⟨rfl, hb2⟩
theorem attr_c (s : ByteArray) (hs : 8 * s.size ≤ 140737488355328) (w : World) :
    Calls Try.prog 15 #[.string s] w fun r w' => r = .returned (.string (escB true s)) ∧ Below w.heap.size w w' := by
  go_enter Try.func15, Try.ntmps15
  go_wp2_with (first | (go_at_call 25; refine (esc_c _ _ hs _).mono ?_; rintro e w2 ⟨rfl, hb2⟩))
  go_ret
  exact ⟨rfl, hb2⟩
end Go.Proofs.Ytfkgcignlhmodaa.HEsc

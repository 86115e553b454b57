/- Rows of bytes of one's own; the document's Text and Attr. -/
import Derived.Test.YtonoalbhpligfaaSmall
import Derived.LoopTactic
import Derived.Lib.AppendStr
import Derived.Lib.UnsafeStr
import Derived.Laws.BytesArg
namespace Go.Proofs.Ytonoalbhpligfaa.Row
open Go.ChangeShapes Go.WideShapes Go.ChangeAt Go.RowKit Go.Proofs.Ytonoalbhpligfaa.Base Go.Proofs.Ytonoalbhpligfaa.Small
set_option linter.unusedVariables false

theorem info5 : (Try.prog.info? 5).map (fun i => (i.zero, i.size, i.bytes)) = some (some (.int .u8 0), 1, 1) := by kernel_rfl
/-- v is a row of one's own (a block from B on) that holds the bytes L. -/
def Own (w : World) (B : Nat) (v : Value) (L : List UInt8) : Prop := w.ownsRow B 5 1 v L.length (Lib.byteCells L)
theorem cell_new (w : World) (v : Value) (t : TypeId) : (w.alloc (.cells #[v] t)).cell? ⟨w.heap.size, 0, none⟩ = some v := by
  have h := heap_alloc_new w (.cells #[v] t)
  exact cell_of_one h
theorem cell_one_byte (wr : World) (c : Nat) (j : Nat) (u : Value) (hj : [Value.int .u8 (c : Int)][j]? = some u) :
    (wr.alloc (.cells #[.int .u8 (c : Int)] 5)).cell? ((⟨wr.heap.size, 0, none⟩ : Addr).add j) = some u := by
  cases j with
  | zero => simp at hj; subst hj; exact cell_new _ _ _
  | succ j => simp at hj
theorem own_more {w' : World} {B : Nat} {v : Value} {L : List UInt8} {c : UInt8} (h : w'.ownsRow B 5 1 v (L.length + 1) (Lib.byteCells L ++ [.int .u8 (c.toNat : Int)])) : Own w' B v (L ++ [c]) := by
  unfold Own
  rw [Lib.byteCells_append, List.length_append]
  exact h
theorem own_text {w' : World} {B : Nat} {v : Value} {L : List UInt8} {x : ByteArray} (h : w'.ownsRow B 5 1 v (L.length + x.size) (Lib.byteCells L ++ Lib.strCells x)) : Own w' B v (L ++ x.data.toList) := by
  unfold Own
  rw [Lib.byteCells_append, List.length_append]
  exact h
/-- Such a row as a text. -/
theorem own_conv {w : World} {B : Nat} {v : Value} {L : List UInt8} (h : Own w B v L) : (convert 49 9 v).run Try.prog w = .ok (.string ⟨L.toArray⟩) w := by
  rcases h.2 with ⟨rfl, h0⟩ | ⟨g, cap, cur, rfl, hb, hh, hn, hm, _⟩
  · have hL : L = [] := List.eq_nil_of_length_eq_zero h0
    subst hL
    exact run_convert_bytes_nil w 49 5 Try.underlying49 Try.underlying5 0 0 9 Try.underlying9
  · refine run_convert_bytes_back (P := Try.prog) w 49 9 5 ⟨g, 0, none⟩ cap L Try.underlying49 Try.underlying5 Try.underlying9 fun j hj => ?_
    exact World.ownsRow.cells (g := g) h rfl j (.int .u8 (L[j].toNat : Int)) (by simp [Lib.byteCells, hj])
theorem rent_one {c : UInt8} {q : Bool} (h : rentB c.toNat q = ⟨#[]⟩) : one q c = [c] := by
  unfold rentB at h
  unfold one
  split at h
  · rename_i h2
    rw [if_pos (Or.inr h2)]
  · have h3 : ent c.toNat = [] := by simpa [entB] using h
    rw [if_pos (Or.inl h3)]
theorem rent_text {c : UInt8} {q : Bool} {X : ByteArray} (h : rentB c.toNat q = X) (hX : ¬ X = ⟨#[]⟩) : one q c = X.data.toList := by
  subst h
  unfold rentB at hX ⊢
  unfold one
  split at hX
  · exact absurd rfl hX
  · rename_i h2
    rw [if_neg h2, if_neg]
    · rfl
    · rintro (h3 | h3)
      · exact hX (by rw [entB, h3])
      · exact h2 h3
theorem full {X : ByteArray} (h : ¬ X = ⟨#[]⟩) : X.toList.isEmpty = false := by
  rw [ByteArray.toList_eq]
  cases hl : X.data.toList with
  | nil =>
    have h2 : X = ⟨#[]⟩ := by
      apply ByteArray.ext
      apply Array.toList_inj.1
      rw [hl]
    exact absurd h2 h
  | cons a r => rfl
theorem rent_len (c : Nat) (q : Bool) : (rentB c q).size ≤ 8 := by
  unfold rentB
  split
  · decide
  · rw [entB_size]; exact ent_len c
set_option maxHeartbeats 800000 in
theorem resc_c (s : ByteArray) (q : Bool) (hs : 8 * s.size ≤ 140737488355328) (w : World) :
    Calls Try.prog 56 #[.string s, .bool q] w fun r w' => r = .returned (.string (escB q s)) ∧ Below w.heap.size w w' := by
  obtain ⟨i0, hi, hz0, hz1, hz2⟩ := info_parts info5
  go_enter Try.func56, Try.ntmps56
  go_wp2
  go_loopw [5, 6] (fun v i wr => ∃ n : Nat, n ≤ s.size ∧ i = .int .i64 n ∧ Below w.heap.size w wr ∧ Own wr w.heap.size v (esc q (s.data.toList.take n))) (fun _ i _ => s.size - (intOf i).toNat)
  case atStart => exact ⟨0, by omega, rfl, Below.refl _ _, World.ownsRow_nil _ _ _ _⟩
  case round =>
    obtain ⟨n, hn, rfl, hb, hown⟩ := hrel
    have hsz := hb.size
    obtain ⟨L, hL⟩ : ∃ L, esc q (s.data.toList.take n) = L := ⟨_, rfl⟩
    have HL : Hid (esc q (s.data.toList.take n) = L) := hL
    have hlen : L.length ≤ 8 * n := by rw [← hL]; have := esc_len q (s.data.toList.take n); rw [List.length_take] at this; omega
    rw [hL] at hown
    clear hL
    by_cases hlt : n < s.size
    · obtain ⟨c, hc⟩ : ∃ c : UInt8, s[n] = c := ⟨_, rfl⟩
      obtain ⟨X, hX⟩ : ∃ X, rentB c.toNat q = X := ⟨_, rfl⟩
      by_cases he : X = ⟨#[]⟩
      · subst he
        have H1 : Hid (one q c = [c]) := rent_one hX
        go_wp2_with (first
          | (go_at_call 62; refine (rentity_c _ c.toNat rfl _ _).mono ?_; rintro e w' ⟨rfl, rfl⟩)
          | (at_builtin; refine wpList_append_own _ rfl _ _ 49 rfl w.heap.size 5 i0 (.int .u8 0) 1 1 Try.underlying49 hi hz0 hz1 hz2 rfl (by decide) _ _ _ rfl (World.ownsRow.alloc hown _) ⟨_, 0, none⟩ 1 1 [.int .u8 (c.toNat : Int)] rfl rfl (cell_one_byte _ c.toNat) (by intro u hu; simp at hu; subst hu; rfl) (by unfold maxLen; omega) (by omega) (by simp; omega) ?_))
        intro v' w2 hown' hgrow _
        have hb3 := (hb.alloc hsz (.cells #[.int .u8 (c.toNat : Int)] 5)).grown hgrow (by simp; omega) (fun k hk => (World.ownsRow.lt hown k hk).1)
        have ho := own_more hown'
        rw [← HL.out, ← H1.out, ← hc] at ho
        have ho2 : Own w2 w.heap.size v' (esc q (s.data.toList.take (n + 1))) := by
          rw [esc_more q s.data.toList n (by simpa using hlt)]
          exact ho
        clear hown' hgrow hown hb ho HL H1
        go_wp2
        go_roundw
        case rel => exact ⟨n + 1, by omega, by go_num, hb3, ho2⟩
        case measure => simp only [intOf]; omega
      · have H1 : Hid (one q c = X.data.toList) := rent_text hX he
        have hX8 : X.size ≤ 8 := by rw [← hX]; exact rent_len _ _
        have he' : X.toList.isEmpty = false := full he
        go_wp2_with (first
          | (go_at_call 62; refine (rentity_c _ c.toNat rfl _ _).mono ?_; rintro e w' ⟨rfl, rfl⟩)
          | (at_builtin; refine Lib.wpList_append_own_string _ rfl _ _ 49 9 rfl w.heap.size 5 i0 Try.underlying49 Try.underlying9 hi hz0 hz1 hz2 _ _ _ rfl hown X rfl (by unfold maxLen; omega) (by omega) (by omega) ?_))
        intro v' w2 hown' hgrow _
        have hb3 := hb.grown hgrow (by omega) (fun k hk => (World.ownsRow.lt hown k hk).1)
        have ho := own_text hown'
        rw [← HL.out, ← H1.out, ← hc] at ho
        have ho2 : Own w2 w.heap.size v' (esc q (s.data.toList.take (n + 1))) := by
          rw [esc_more q s.data.toList n (by simpa using hlt)]
          exact ho
        clear hown' hgrow hown hb ho HL H1 hX he hX8
        go_wp2
        go_roundw
        case rel => exact ⟨n + 1, by omega, by go_num, hb3, ho2⟩
        case measure => simp only [intOf]; omega
    · obtain rfl : n = s.size := by omega
      have hconv := own_conv hown
      have HE : Hid ((⟨L.toArray⟩ : ByteArray) = escB q s) := by
        show _ = _
        rw [← HL.out, List.take_of_length_le (by simp)]
        rfl
      clear hown HL
      go_wp2
      go_ret
      rw [HE.out]
      exact ⟨rfl, hb⟩
end Go.Proofs.Ytonoalbhpligfaa.Row
